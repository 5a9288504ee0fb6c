/- What runes.before and runes.Before answer: the last piece of what stands ahead of a place. -/
import Derived.Test.YtjccoiephdopkaaDoorQQWk
import Derived.Test.YtjccoiephdopkaaDoorBd
namespace Go.Proofs.YtjccoiephdopkaaDoor.SQ
set_option linter.unusedVariables false
set_option linter.unusedSimpArgs false
open Go Go.RowKit
set_option maxRecDepth 100000

/-- Where a text's last piece begins. -/
def lp (t : ByteArray) : Nat := (posns t).getLast?.getD 0
theorem lp_eq (t : ByteArray) (pre : List Nat) (p : Nat) (h : posns t = pre ++ [p]) : lp t = p := by simp [lp, h]

/-- A piece, as a value. -/
def pcV (s : ByteArray) (i : Nat) : Value := .agg (pcC s i)

theorem pc_form (s : ByteArray) (n q k : Nat) (hn : n ≤ s.size) (hq : q + k = n) (hk : 1 ≤ k) (h : lenN (s.extract 0 n) q = k) : pcV s q = pcV (s.extract 0 n) (lp (s.extract 0 n)) := by
  have hz := size_head s n hn
  obtain ⟨pre, p, hp, he⟩ := posns_last (s.extract 0 n) (by omega)
  have := last_form (s.extract 0 n) k hk (by omega) (by rw [hz, show n - k = q by omega]; exact h) pre p hp he
  rw [hz, show n - k = q by omega] at this
  rw [lp_eq _ pre p hp, this]
  have hf := head_form s n q hn (by omega) (by omega)
  simp only [pcV, pcC, wd, rn, bk, hf.1]
  rw [h]
  have hr := hf.2
  unfold rn at hr
  rw [hf.1, h, if_neg (by omega), if_neg (by omega)] at hr
  rw [if_neg (by omega), if_neg (by omega), if_neg (by omega), hr]

theorem pc_broken (s : ByteArray) (n : Nat) (hn : n ≤ s.size) (h1 : 1 ≤ n) (h : ∀ m, 1 ≤ m → m ≤ 4 → m ≤ n → lenN (s.extract 0 n) (n - m) ≠ m) :
    Value.agg #[.int .i64 ((n : Int) - 1), .int .i64 1, .int .i32 65533, .bool true] = pcV (s.extract 0 n) (lp (s.extract 0 n)) := by
  have hz := size_head s n hn
  obtain ⟨pre, p, hp, he⟩ := posns_last (s.extract 0 n) (by omega)
  have := last_broken (s.extract 0 n) (by omega) (by rw [hz]; exact h) pre p hp he
  rw [hz] at this
  have hk := (bk_iff _ _).2 this.2
  have h2 := bk_rn _ _ hk
  rw [lp_eq _ pre p hp]
  simp only [pcV, pcC, hk, h2.1, h2.2]
  rw [show ((n : Int) - 1) = (p : Int) by omega]
  rfl

/-- No form of fewer than n bytes ends at i. -/
def noEnd (s : ByteArray) (i n : Nat) : Prop := ∀ m, 1 ≤ m → m < n → m ≤ i → lenN (s.extract 0 i) (i - m) ≠ m

set_option maxHeartbeats 1000000 in
theorem before_any (s : ByteArray) (i : Nat) (h1 : 1 ≤ i) (hi : i ≤ s.size) (hs : s.size ≤ 281474976710656) (w : World) :
    Calls Tryd.prog 84 #[.string s, .int .i64 (i : Int)] w fun e w' => e = .returned (pcV (s.extract 0 i) (lp (s.extract 0 i))) ∧ Below w.heap.size w w' := by
  have hz := size_head s i hi
  obtain ⟨A, hA⟩ : ∃ A, pcV (s.extract 0 i) (lp (s.extract 0 i)) = A := ⟨_, rfl⟩
  have HA := Lib.hid hA
  rw [hA]; clear hA
  go_enter Tryd.func84, Tryd.ntmps84
  go_wp2
  go_loop [5] (fun v => ∃ n : Nat, v = .int .i64 n ∧ 1 ≤ n ∧ n ≤ 5 ∧ noEnd s i n) (fun v => 5 - (intOf v).toNat)
  case atStart => exact ⟨1, rfl, by omega, by omega, fun m h1 h2 => by omega⟩
  case round =>
    obtain ⟨n, rfl, hn1, hn5, hno⟩ := hrel
    have HO := Lib.hid hno; clear hno
    by_cases hlt : n ≤ 4 ∧ n ≤ i
    · obtain ⟨hn4, hni⟩ := hlt
      obtain ⟨q, hq⟩ : ∃ q, q + n = i := ⟨i - n, by omega⟩
      have hqi : (i : Int) - (n : Int) = (q : Int) := by omega
      obtain ⟨T, hT⟩ : ∃ T, s.extract 0 i = T := ⟨_, rfl⟩
      have hl := length_any T q (by rw [← hT, hz]; omega) (by rw [← hT, hz]; omega)
      have HT := Lib.hid hT
      have HQ := Lib.hid hq; clear hq
      by_cases he : lenN T q = n
      · rw [he] at hl
        have hr := read_pcL s q (by have := HQ.out; omega) (by omega)
        have hfin := pc_form s i q n hi HQ.out hn1 (by rw [hT]; exact he)
        rw [HA.out] at hfin
        have HF := Lib.hid hfin; clear hfin
        have HE := Lib.hid he; clear he
        go_wp2_with (first | (go_at_call 92; refine (hl _).mono ?_; rintro e w' ⟨rfl, rfl⟩) | (go_at_call 83; refine (hr _).mono ?_; rintro e w' ⟨rfl, hb⟩; obtain ⟨hc2, hf2⟩ := bcell hb; have hz2 := hb.size))
        refine bodyPost_ret (v := .agg #[.int .i64 q, .int .i64 (wd s q : Nat), .int .i32 (rn s q : Nat), .bool (bk s q)]) (by simp [results, Tryd.f84, go_sem, hc2, hz2]) rfl ⟨by rw [← HF.out]; rfl, ?_⟩
        exact (((((((Below.refl _ _).alloc (Nat.le_refl _) _).trans (hb.mono (by simp))).setCell (p := ⟨_, 0, none⟩) (Nat.le_refl _) _).setCell (p := ⟨_, 1, none⟩) (Nat.le_refl _) _).setCell (p := ⟨_, 2, none⟩) (Nat.le_refl _) _).setCell (p := ⟨_, 3, none⟩) (Nat.le_refl _) _)
      · have hneq : ((lenN T q : Int) == (n : Int)) = false := by rw [beq_eq_false_iff_ne]; omega
        have HE := Lib.hid he; clear he
        go_wp2_with (first | (go_at_call 92; refine (hl _).mono ?_; rintro e w' ⟨rfl, rfl⟩))
        go_round
        case rel =>
          refine ⟨n + 1, by go_num, by omega, by omega, fun m hm1 hm2 hmi => ?_⟩
          by_cases e : m = n
          · rw [e, HT.out, show i - n = q by have := HQ.out; omega]; exact HE.out
          · exact HO.out m hm1 (by omega) hmi
        case measure => simp [intOf]; omega
    · have hfin := pc_broken s i hi h1 (fun m hm1 hm4 hmi => HO.out m hm1 (by omega) hmi)
      rw [HA.out] at hfin
      have HF := Lib.hid hfin; clear hfin
      by_cases hn4 : n ≤ 4
      all_goals
        go_wp2_with (first | (go_at_call 93; refine (broken_any _ _).mono ?_; rintro e w' ⟨rfl, hb⟩; obtain ⟨hc2, hf2⟩ := bcell hb; have hz2 := hb.size))
        refine bodyPost_ret (v := .agg #[.int .i64 ((i : Int) - 1), .int .i64 1, .int .i32 65533, .bool true]) (by simp [results, Tryd.f84, go_sem, hc2, hz2]) rfl ⟨by rw [← HF.out], ?_⟩
        exact (((((((Below.refl _ _).alloc (Nat.le_refl _) _).trans (hb.mono (by simp))).setCell (p := ⟨_, 0, none⟩) (Nat.le_refl _) _).setCell (p := ⟨_, 1, none⟩) (Nat.le_refl _) _).setCell (p := ⟨_, 2, none⟩) (Nat.le_refl _) _).setCell (p := ⟨_, 3, none⟩) (Nat.le_refl _) _)
end Go.Proofs.YtjccoiephdopkaaDoor.SQ
