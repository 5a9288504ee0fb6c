/- What the document's Seam answers; open and Wants. -/
import Derived.Test.YtgpnheaefagfiaaSm
namespace Go.Proofs.Ytgpnheaefagfiaa
set_option linter.unusedVariables false
set_option linter.unusedSimpArgs false
open Go Go.RowKit
set_option maxRecDepth 100000

def SnKp (S : ByteArray) (w : World) (Q bP : Nat) (pv : Value) (X : World) : Prop :=
  (X.ownsRow bP 24 4 pv (posns S).length (pcs S (posns S)) ∧ Blk X Q #[.int .i64 0, .int .i64 0] 49) ∧ Below w.heap.size w X
def SnRel (S : ByteArray) (A : Nat) (w : World) (Q bP : Nat) (pv i : Value) (wr : World) : Prop :=
  ∃ k : Nat, i = .int .i64 k ∧ k ≤ (posns S).length ∧ (∀ p ∈ (posns S).take k, ¬ Over S A p) ∧ SnKp S w Q bP pv wr

set_option maxHeartbeats 4000000 in
theorem seamR_any (a b : ByteArray) (hab : a.size + b.size ≤ 1048576) (w : World) :
    Calls Try.prog 54 #[.string a, .string b] w fun e w' => ∃ v, SmV a b v ∧ e = .returned v ∧ Below w.heap.size w w' := by
  obtain ⟨S, hS⟩ : ∃ S, a ++ b = S := ⟨_, rfl⟩
  have hSs : S.size = a.size + b.size := by rw [← hS, ByteArray.size_append]
  have cP := piecesR_any S (by omega)
  have hpl := posns_len S
  have cP2 : ∀ w, Calls Try.prog 19 #[.string (a ++ b)] w (PsPost S w) := fun w => by rw [hS]; exact cP w
  have HS := Lib.hid hS
  clear cP hS
  go_enter Try.func54, Try.ntmps54
  go_wp2_with (first | (go_at_call 19; refine (cP2 _).mono ?_; rintro e w1 ⟨pv, rfl, hown, hb1⟩; obtain ⟨o, cap, rfl, ho⟩ := own_slice hown))
  obtain ⟨n, hn⟩ : ∃ n, (posns S).length = n := ⟨_, rfl⟩
  have HN := Lib.hid hn
  have hK : SnKp S w w.heap.size (w.heap.size + 1) (.slice o n cap) w1 := by
    refine ⟨⟨?_, (Blk.new w _ _).below' hb1⟩, ((Below.refl _ _).alloc (Nat.le_refl _) _).trans (hb1.mono (by simp))⟩
    rw [← hn]; simpa using hown
  simp only [hn] at hpl ho ⊢
  clear hown hn hb1
  go_loopw [13] (fun i wr => SnRel S a.size w w.heap.size (w.heap.size + 1) (.slice o n cap) i wr) (fun i _ => n - (intOf i).toNat)
  case atStart => exact ⟨0, rfl, by omega, fun p hp => by simp at hp, hK⟩
  case round =>
    clear hK
    obtain ⟨k, rfl, hk, hno, hkp⟩ := hrel
    rw [HN.out] at hk
    have hB := hkp.2
    have hblk := hkp.1.2
    have q0 : wr.cell? ⟨w.heap.size, 0, none⟩ = some (.int .i64 0) := hblk.cell 0
    have q1 : wr.cell? ⟨w.heap.size, 1, none⟩ = some (.int .i64 0) := hblk.cell 1
    have g0 := hblk.frozen 0
    have g1 := hblk.frozen 1
    have hlt0 := hblk.lt
    by_cases hlt : k < n
    · obtain ⟨g, rfl⟩ := ho (by omega)
      have hs1 : k < (posns S).length := by rw [HN.out]; exact hlt
      obtain ⟨p, hpk⟩ : ∃ p, (posns S)[k]? = some p := ⟨_, List.getElem?_eq_getElem hs1⟩
      have hrow := hkp.1.1
      rw [HN.out] at hrow
      obtain ⟨c0, c1, c2, c3⟩ := nth_cells hrow HN.out k hlt p hpk
      have hpm := List.mem_of_getElem? hpk
      have hps := (posG_ge S 0 p hpm).2
      have hsn : (posns S).take (k + 1) = (posns S).take k ++ [p] := by
        rw [List.take_succ_eq_append_getElem hs1]
        rw [List.getElem?_eq_getElem hs1] at hpk
        rw [Option.some.inj hpk]
      have hw4 := wd_le S p
      obtain ⟨d, hd⟩ : ∃ d, wd S p = d := ⟨_, rfl⟩
      rw [hd] at c1 hw4
      have HPM := Lib.hid hpm
      have HSN := Lib.hid hsn
      have HNO := Lib.hid hno
      have HKP := Lib.hid hkp
      have HD := Lib.hid hd
      have f1 : IntKind.i64.wrap ((p : Int) + (d : Int)) = (p : Int) + (d : Int) := IntWalk.i64_in _ (by omega)
      clear hpk hpm hsn hno hkp hrow hs1 hd hblk
      by_cases h1 : p < a.size
      · have i1 : (p : Int) < (a.size : Int) := by omega
        by_cases h2 : a.size < p + d
        · have i2 : (a.size : Int) < (p : Int) + (d : Int) := by omega
          go_wp2
          refine bodyPost_ret (v := .tuple #[.agg #[.int .i64 (p : Int), .int .i64 ((p : Int) + (d : Int))], .bool true]) (by simp [results, Try.f54, go_sem, q0, q1, hlt0]) rfl ⟨_, .inl ⟨p, ?_, ?_⟩, rfl, ?_⟩
          · rw [HS.out]; exact ⟨HPM.out, h1, by rw [HD.out]; exact h2⟩
          · rw [HS.out, HD.out, show ((p + d : Nat) : Int) = (p : Int) + (d : Int) by omega]
          · go_grown
        · have i2 : ¬ (a.size : Int) < (p : Int) + (d : Int) := by omega
          go_wp2
          go_roundw
          case rel =>
            refine ⟨k + 1, by go_num, by rw [HN.out]; omega, fun x hx => ?_, ⟨HKP.out.1.1.alloc _, HKP.out.1.2.alloc _⟩, hB.alloc hB.size _⟩
            rw [HSN.out] at hx
            rcases List.mem_append.1 hx with h | h
            · exact HNO.out x h
            · rw [List.mem_singleton.1 h]; rintro ⟨_, _, h3⟩; rw [HD.out] at h3; exact h2 h3
          case measure => simp [intOf]; omega
      · have i1 : ¬ (p : Int) < (a.size : Int) := by omega
        go_wp2
        go_roundw
        case rel =>
          refine ⟨k + 1, by go_num, by rw [HN.out]; omega, fun x hx => ?_, ⟨HKP.out.1.1.alloc _, HKP.out.1.2.alloc _⟩, hB.alloc hB.size _⟩
          rw [HSN.out] at hx
          rcases List.mem_append.1 hx with h | h
          · exact HNO.out x h
          · rw [List.mem_singleton.1 h]; rintro ⟨_, h3, _⟩; exact h1 h3
        case measure => simp [intOf]; omega
    · have hnone : ∀ p, ¬ Over (a ++ b) a.size p := by
        rw [HS.out]
        intro p hO
        rw [List.take_of_length_le (by rw [HN.out]; omega)] at hno
        exact hno p hO.1 hO
      have HX := Lib.hid hnone
      clear hno hkp hnone
      go_wp2
      refine bodyPost_ret (v := .tuple #[.agg #[.int .i64 0, .int .i64 0], .bool false]) (by simp [results, Try.f54, go_sem, q0, q1, hlt0]) rfl ⟨_, .inr ⟨HX.out, rfl⟩, rfl, ?_⟩
      go_grown

/-- Do the last n bytes of s begin a form? -/
def opB (s : ByteArray) (n : Nat) : Prop := n < whN (bt s (s.size - n)) ∧ fitN s (s.size - n) = n
instance (s : ByteArray) (n : Nat) : Decidable (opB s n) := by unfold opB; exact inferInstance
def opN (s : ByteArray) : Nat := if 1 ≤ s.size ∧ opB s 1 then 1 else if 2 ≤ s.size ∧ opB s 2 then 2 else if 3 ≤ s.size ∧ opB s 3 then 3 else 0
/-- None of the first n does. -/
def opNo (s : ByteArray) (n : Nat) : Prop := ∀ m, 1 ≤ m → m < n → m ≤ s.size → ¬ opB s m
theorem opN_yes {s : ByteArray} {n : Nat} (h1 : 1 ≤ n) (h3 : n ≤ 3) (hs : n ≤ s.size) (hno : opNo s n) (h : opB s n) : opN s = n := by
  unfold opN
  rcases (show n = 1 ∨ n = 2 ∨ n = 3 by omega) with rfl | rfl | rfl
  · rw [if_pos ⟨hs, h⟩]
  · rw [if_neg (fun hh => hno 1 (by omega) (by omega) hh.1 hh.2), if_pos ⟨hs, h⟩]
  · rw [if_neg (fun hh => hno 1 (by omega) (by omega) hh.1 hh.2), if_neg (fun hh => hno 2 (by omega) (by omega) hh.1 hh.2), if_pos ⟨hs, h⟩]
theorem opN_no {s : ByteArray} (h : ∀ m, 1 ≤ m → m ≤ 3 → m ≤ s.size → ¬ opB s m) : opN s = 0 := by
  unfold opN
  rw [if_neg (fun hh => h 1 (by omega) (by omega) hh.1 hh.2), if_neg (fun hh => h 2 (by omega) (by omega) hh.1 hh.2), if_neg (fun hh => h 3 (by omega) (by omega) hh.1 hh.2)]
theorem opN_cases (s : ByteArray) : opN s = 0 ∨ (1 ≤ opN s ∧ opN s ≤ 3 ∧ opN s ≤ s.size ∧ opB s (opN s)) := by
  unfold opN
  split
  · rename_i h; right; exact ⟨by omega, by omega, h.1, h.2⟩
  · split
    · rename_i h; right; exact ⟨by omega, by omega, h.1, h.2⟩
    · split
      · rename_i h; right; exact ⟨by omega, by omega, h.1, h.2⟩
      · left; rfl

set_option maxHeartbeats 1000000 in
theorem open_any (s : ByteArray) (hs : s.size ≤ 281474976710656) (w : World) :
    Calls Try.prog 82 #[.string s] w fun e w' => e = .returned (.int .i64 (opN s : Nat)) ∧ w = w' := by
  obtain ⟨N, hN⟩ : ∃ N, opN s = N := ⟨_, rfl⟩
  have HN := Lib.hid hN
  rw [hN]
  clear hN
  go_enter Try.func82, Try.ntmps82
  go_wp2
  go_loop [3] (fun v => ∃ n : Nat, v = .int .i64 n ∧ 1 ≤ n ∧ n ≤ 4 ∧ opNo s n) (fun v => 5 - (intOf v).toNat)
  case atStart => exact ⟨1, rfl, by omega, by omega, fun m h1 h2 => by omega⟩
  case round =>
    obtain ⟨n, rfl, hn1, hn4, hno⟩ := hrel
    have HO := Lib.hid hno; clear hno
    by_cases hlt : n ≤ 3 ∧ n ≤ s.size
    · obtain ⟨hn3, hns⟩ := hlt
      obtain ⟨q, hq⟩ : ∃ q, s.size - n = q := ⟨_, rfl⟩
      have hqi : (s.size : Int) - (n : Int) = (q : Int) := by omega
      have hqs : q < s.size := by omega
      have hg := bt_get s q hqs
      have cW := whole_any (bt s q) (bt_lt s q)
      have cF := fitting_any s q hqs (by omega)
      have hbl := bt_lt s q
      by_cases hw : n < whN (bt s q)
      · have hwi : (n : Int) < (whN (bt s q) : Int) := by omega
        by_cases hf : fitN s q = n
        · have hyes : opN s = n := opN_yes hn1 hn3 hns HO.out (by unfold opB; rw [hq]; exact ⟨hw, hf⟩)
          rw [hf] at cF
          rw [HN.out] at hyes
          have HY := Lib.hid hyes
          clear hf hyes hq hw
          go_wp2_with (first | (go_at_call 83; refine (cW _).mono ?_; rintro e w' ⟨rfl, rfl⟩) | (go_at_call 88; refine (cF _).mono ?_; rintro e w' ⟨rfl, rfl⟩))
          go_ret
          exact ⟨ret_int (by rw [HY.out]), rfl⟩
        · have hfb : ((fitN s q : Int) == (n : Int)) = false := by rw [beq_eq_false_iff_ne]; omega
          have HX : Hid (¬ opB s n) := Lib.hid (by unfold opB; rw [hq]; exact fun h => hf h.2)
          clear hf hq hw
          go_wp2_with (first | (go_at_call 83; refine (cW _).mono ?_; rintro e w' ⟨rfl, rfl⟩) | (go_at_call 88; refine (cF _).mono ?_; rintro e w' ⟨rfl, rfl⟩))
          go_round
          case rel =>
            refine ⟨n + 1, by go_num, by omega, by omega, fun m h1 h2 h3 => ?_⟩
            by_cases e : m = n
            · rw [e]; exact HX.out
            · exact HO.out m h1 (by omega) h3
          case measure => simp [intOf]; omega
      · have hwi : ¬ (n : Int) < (whN (bt s q) : Int) := by omega
        have HX : Hid (¬ opB s n) := Lib.hid (by unfold opB; rw [hq]; exact fun h => hw h.1)
        clear hq hw
        go_wp2_with (first | (go_at_call 83; refine (cW _).mono ?_; rintro e w' ⟨rfl, rfl⟩))
        go_round
        case rel =>
          refine ⟨n + 1, by go_num, by omega, by omega, fun m h1 h2 h3 => ?_⟩
          by_cases e : m = n
          · rw [e]; exact HX.out
          · exact HO.out m h1 (by omega) h3
        case measure => simp [intOf]; omega
    · have hz : opN s = 0 := opN_no (fun m h1 h2 h3 => HO.out m h1 (by omega) h3)
      rw [HN.out] at hz
      have HZ := Lib.hid hz
      clear hz
      by_cases h3 : n ≤ 3
      · have h4 : ¬ (n : Int) ≤ (s.size : Int) := by omega
        go_wp2
        go_ret
        exact ⟨ret_int (by rw [HZ.out]; rfl), rfl⟩
      · go_wp2
        go_ret
        exact ⟨ret_int (by rw [HZ.out]; rfl), rfl⟩

def waN (s : ByteArray) : Nat := if opN s = 0 then 0 else whN (bt s (s.size - opN s)) - opN s

set_option maxHeartbeats 1000000 in
theorem wants_any (s : ByteArray) (hs : s.size ≤ 281474976710656) (w : World) :
    Calls Try.prog 55 #[.string s] w fun e w' => e = .returned (.int .i64 (waN s : Nat)) ∧ w = w' := by
  have cO := open_any s hs
  have hc := opN_cases s
  obtain ⟨N, hN⟩ : ∃ N, opN s = N := ⟨_, rfl⟩
  unfold waN
  rw [hN] at cO hc ⊢
  clear hN
  rcases hc with rfl | ⟨h1, h3, hns, hw, _⟩
  · go_enter Try.func55, Try.ntmps55
    go_wp2_with (first | (go_at_call 82; refine (cO _).mono ?_; rintro e w' ⟨rfl, rfl⟩))
    go_ret
    exact ⟨rfl, rfl⟩
  · rw [if_neg (by omega)]
    obtain ⟨q, hq⟩ : ∃ q, s.size - N = q := ⟨_, rfl⟩
    rw [hq] at hw ⊢
    have hqi : (s.size : Int) - (N : Int) = (q : Int) := by omega
    have hqs : q < s.size := by omega
    have hg := bt_get s q hqs
    have cW := whole_any (bt s q) (bt_lt s q)
    have hbl := bt_lt s q
    have hw4 := whN_le (bt s q)
    have hn0 : ((N : Int) == 0) = false := by rw [beq_eq_false_iff_ne]; omega
    have hsub : ((whN (bt s q) : Nat) : Int) - (N : Int) = ((whN (bt s q) - N : Nat) : Int) := by omega
    clear hq
    go_enter Try.func55, Try.ntmps55
    go_wp2_with (first | (go_at_call 82; refine (cO _).mono ?_; rintro e w' ⟨rfl, rfl⟩) | (go_at_call 83; refine (cW _).mono ?_; rintro e w' ⟨rfl, rfl⟩))
    go_ret
    exact ⟨ret_int (by first | rfl | omega), rfl⟩
end Go.Proofs.Ytgpnheaefagfiaa
