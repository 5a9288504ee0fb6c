/- What runes.Around and runes.Boundary answer, and the document's own. -/
import Derived.Test.YtgpnheaefagfiaaEnds
namespace Go.Proofs.Ytgpnheaefagfiaa
set_option linter.unusedVariables false
set_option linter.unusedSimpArgs false
open Go Go.RowKit
set_option maxRecDepth 100000

theorem ret_bool {a b : Bool} (h : a = b) : Ending.returned (.bool a) = .returned (.bool b) := by rw [h]

def ArPost (s : ByteArray) (i : Nat) (w : World) (e : Ending) (w' : World) : Prop :=
  ∃ F T, InB s i F T ∧ e = .returned (.agg #[.int .i64 (F : Nat), .int .i64 (T : Nat)]) ∧ Below w.heap.size w w'

/-- No form is found to hold i, from fewer than n bytes ahead. -/
def noArd (s : ByteArray) (i n : Nat) : Prop := ∀ m, 1 ≤ m → m < n → m ≤ i → ¬ m < lenN s (i - m)

set_option maxHeartbeats 1000000 in
theorem around_any (s : ByteArray) (i : Nat) (hi : i ≤ s.size) (hs : s.size ≤ 281474976710656) (w : World) :
    Calls Try.prog 74 #[.string s, .int .i64 (i : Int)] w (ArPost s i w) := by
  go_enter Try.func74, Try.ntmps74
  go_wp2
  go_loop [5] (fun v => ∃ n : Nat, v = .int .i64 n ∧ 1 ≤ n ∧ n ≤ 4 ∧ noArd s i n) (fun v => 5 - (intOf v).toNat)
  case atStart => exact ⟨1, rfl, by omega, by omega, fun m h1 h2 => by omega⟩
  case round =>
    obtain ⟨n, rfl, hn1, hn4, hno⟩ := hrel
    have HO := Lib.hid hno; clear hno
    by_cases hlt : n ≤ 3 ∧ n ≤ i
    · obtain ⟨hn3, hni⟩ := hlt
      obtain ⟨q, hq⟩ : ∃ q, q + n = i := ⟨i - n, by omega⟩
      have hqi : (i : Int) - (n : Int) = (q : Int) := by omega
      have hl := length_any s q (by omega) (by omega)
      have HQ := Lib.hid hq; clear hq
      have hL4 := lenN_le s q
      obtain ⟨L, hL⟩ : ∃ L, lenN s q = L := ⟨_, rfl⟩
      rw [hL] at hl hL4
      have HL := Lib.hid hL; clear hL
      by_cases he : n < L
      · have hin := inB_in s i n hn1 hni hi (by rw [show i - n = q by have := HQ.out; omega, HL.out]; exact he)
        rw [show i - n = q by have := HQ.out; omega, HL.out] at hin
        have HI := Lib.hid hin; clear hin
        go_wp2_with (first | (go_at_call 71; refine (hl _).mono ?_; rintro e w' ⟨rfl, rfl⟩))
        refine bodyPost_ret (v := .agg #[.int .i64 q, .int .i64 ((q : Int) + L)]) (by simp [results, Try.f74, go_sem]) rfl ⟨q, q + L, HI.out, by push_cast; rfl, ?_⟩
        exact (Below.refl _ _).alloc (Nat.le_refl _) _
      · go_wp2_with (first | (go_at_call 71; refine (hl _).mono ?_; rintro e w' ⟨rfl, rfl⟩))
        go_round
        case rel =>
          refine ⟨n + 1, by go_num, by omega, by omega, fun m hm1 hm2 hmi => ?_⟩
          by_cases e : m = n
          · rw [e, show i - n = q by have := HQ.out; omega, HL.out]; exact he
          · exact HO.out m hm1 (by omega) hmi
        case measure => simp [intOf]; omega
    · have hout := inB_out s i hi (fun m hm1 hm3 hmi => HO.out m hm1 (by omega) hmi)
      have HI := Lib.hid hout; clear hout
      by_cases hn3 : n ≤ 3
      all_goals
        go_wp2
        refine bodyPost_ret (v := .agg #[.int .i64 i, .int .i64 i]) (by simp [results, Try.f74, go_sem]) rfl ⟨i, i, HI.out, rfl, ?_⟩
        exact (Below.refl _ _).alloc (Nat.le_refl _) _

def Ar2Post (s : ByteArray) (i : Nat) (w : World) (e : Ending) (w' : World) : Prop :=
  ∃ F T, InB s i F T ∧ e = .returned (.tuple #[.agg #[.int .i64 (F : Nat), .int .i64 (T : Nat)], .int .i64 0]) ∧ Below w.heap.size w w'

set_option maxHeartbeats 400000 in
theorem Around_ok (s : ByteArray) (i : Nat) (hi : i ≤ s.size) (hs : s.size ≤ 281474976710656) (w : World) :
    Calls Try.prog 31 #[.string s, .int .i64 (i : Int)] w (Ar2Post s i w) := by
  go_enter Try.func31, Try.ntmps31
  go_wp2_with (go_at_call 74; refine (around_any s i hi hs _).mono ?_; rintro e w' ⟨F, T, hin, rfl, hb⟩; obtain ⟨hc2, hf2⟩ := bcell hb; have hz2 := hb.size; have HI := Lib.hid hin; clear hin)
  refine bodyPost_ret (v := .tuple #[.agg #[.int .i64 (F : Nat), .int .i64 (T : Nat)], .int .i64 0]) (by simp [results, Try.f31, go_sem, hc2, hz2]) rfl ⟨F, T, HI.out, rfl, ?_⟩
  exact (((((Below.refl _ _).alloc (Nat.le_refl _) _).trans (hb.mono (by simp))).setCell (p := ⟨_, 0, none⟩) (Nat.le_refl _) _).setCell (p := ⟨_, 1, none⟩) (Nat.le_refl _) _)

set_option maxHeartbeats 400000 in
theorem Around_no (s : ByteArray) (i : Int) (hi : i < 0 ∨ (s.size : Int) < i) (w : World) :
    Calls Try.prog 31 #[.string s, .int .i64 i] w fun e w' => e = .returned (.tuple #[.agg #[.int .i64 0, .int .i64 0], .int .i64 5]) ∧ Below w.heap.size w w' := by
  rcases (show i < 0 ∨ (¬ i < 0 ∧ (s.size : Int) < i) by omega) with h | ⟨h, h'⟩
  all_goals
    clear hi
    go_enter Try.func31, Try.ntmps31
    go_wp2
    refine bodyPost_ret (v := .tuple #[.agg #[.int .i64 0, .int .i64 0], .int .i64 5]) (by simp [results, Try.f31, go_sem]) rfl ⟨rfl, ?_⟩
    exact (Below.refl _ _).alloc (Nat.le_refl _) _

theorem field_span0 (a b : Int) (w : World) : (Instr.field 49 (.agg #[.int .i64 a, .int .i64 b]) 0).run Try.prog w = .ok (.int .i64 a) w := by kernel_rfl
theorem field_span1 (a b : Int) (w : World) : (Instr.field 49 (.agg #[.int .i64 a, .int .i64 b]) 1).run Try.prog w = .ok (.int .i64 b) w := by kernel_rfl

/-- Is i a boundary? -/
def isB (s : ByteArray) (i : Int) : Bool := decide (0 ≤ i ∧ i.toNat ∈ ends s)

set_option maxHeartbeats 400000 in
theorem Boundary_any (s : ByteArray) (i : Int) (hs : s.size ≤ 281474976710656) (w : World) :
    Calls Try.prog 32 #[.string s, .int .i64 i] w fun e w' => e = .returned (.bool (isB s i)) ∧ Below w.heap.size w w' := by
  rcases (show i < 0 ∨ (¬ i < 0 ∧ (s.size : Int) < i) ∨ (0 ≤ i ∧ i ≤ (s.size : Int)) by omega) with h | ⟨h, h'⟩ | ⟨h, h'⟩
  · have hb : isB s i = false := by unfold isB; rw [decide_eq_false_iff_not]; omega
    rw [hb]; clear hb
    go_enter Try.func32, Try.ntmps32
    go_wp2
    go_ret
    exact ⟨rfl, Below.refl _ _⟩
  · have hb : isB s i = false := by
      unfold isB; rw [decide_eq_false_iff_not]
      rintro ⟨_, hm⟩
      rcases (mem_ends s _).1 hm with hm | hm
      · have := (posG_ge s 0 _ hm).2; omega
      · omega
    rw [hb]; clear hb
    go_enter Try.func32, Try.ntmps32
    go_wp2
    go_ret
    exact ⟨rfl, Below.refl _ _⟩
  · obtain ⟨n, rfl⟩ := Int.eq_ofNat_of_zero_le h
    have hn : n ≤ s.size := by omega
    obtain ⟨b, hb⟩ : ∃ b, isB s n = b := ⟨_, rfl⟩
    have HB := Lib.hid hb
    rw [hb]; clear hb
    have ca := around_any s n hn hs
    have h3 : ¬ (s.size : Int) < n := by omega
    have hfd := field_span0
    go_enter Try.func32, Try.ntmps32
    go_wp2_with (go_at_call 74; refine (ca _).mono ?_; rintro e w' ⟨F, T, hin, rfl, hb⟩; have HI := Lib.hid hin; clear hin)
    go_ret
    refine ⟨ret_bool ?_, hb⟩
    rw [← HB.out, Bool.eq_iff_iff, beq_iff_eq]
    unfold isB
    rw [decide_eq_true_iff]
    have := inB_eq s n F T HI.out
    simp only [Int.toNat_natCast]
    constructor
    · intro e; exact ⟨by omega, this.1 (by omega)⟩
    · rintro ⟨_, e⟩; have := this.2 e; omega

/-- The document's Boundary, from number k on. -/
def BoRel (s : ByteArray) (at' : Int) (w : World) (v : Value) (wr : World) : Prop :=
  ∃ k : Nat, v = .int .i64 k ∧ k ≤ (ends s).length ∧ (∀ j, j < k → ∀ x : Nat, (ends s)[j]? = some x → (x : Int) ≠ at') ∧ wr = w

set_option maxHeartbeats 1000000 in
theorem BoundaryR_any (s : ByteArray) (i : Int) (hs : s.size ≤ 1048576) (w : World) :
    Calls Try.prog 33 #[.string s, .int .i64 i] w fun e w' => e = .returned (.bool (isB s i)) ∧ Below w.heap.size w w' := by
  have cE := ends_any s hs
  have hel : (ends s).length ≤ 1048577 := by have := posns_len s; simp [ends]; omega
  obtain ⟨b, hb⟩ : ∃ b, isB s i = b := ⟨_, rfl⟩
  have HB := Lib.hid hb
  rw [hb]; clear hb
  obtain ⟨n, hn⟩ : ∃ n, (ends s).length = n := ⟨_, rfl⟩
  have HN := Lib.hid hn
  rw [hn] at hel
  clear hn
  go_enter Try.func33, Try.ntmps33
  go_wp2_with (go_at_call 75; refine (cE _).mono ?_; rintro e w1 ⟨g, cap, rfl, hown, hb⟩; rw [HN.out] at hown ⊢)
  have HW := Lib.hid hown; clear hown
  go_loopw [10] (fun v wr => BoRel s i w1 v wr) (fun v _ => n - (intOf v).toNat)
  case atStart => exact ⟨0, rfl, by omega, fun j hj => by omega, rfl⟩
  case round =>
    obtain ⟨k, rfl, hk, hno, rfl⟩ := hrel
    rw [HN.out] at hk
    have HO := Lib.hid hno; clear hno
    by_cases hlt : k < n
    · obtain ⟨p, hpk⟩ : ∃ p, (ends s)[k]? = some p := ⟨_, List.getElem?_eq_getElem (by rw [HN.out]; exact hlt)⟩
      have c0 := nth_int HW.out HN.out k hlt p hpk
      have HK := Lib.hid hpk; clear hpk
      by_cases he : (p : Int) = i
      · have heb : ((p : Int) == i) = true := by rw [beq_iff_eq]; exact he
        have HE := Lib.hid he; clear he
        go_wp2
        go_ret
        refine ⟨ret_bool ?_, hb⟩
        rw [← HB.out]
        symm
        unfold isB
        rw [decide_eq_true_iff]
        have := HE.out
        exact ⟨by omega, by rw [show i.toNat = p by omega]; exact List.mem_of_getElem? HK.out⟩
      · have heb : ((p : Int) == i) = false := by rw [beq_eq_false_iff_ne]; exact he
        have HE := Lib.hid he; clear he
        go_wp2
        go_roundw
        case rel =>
          refine ⟨k + 1, by go_num, by rw [HN.out]; omega, fun j hj x hx => ?_, rfl⟩
          by_cases e : j = k
          · subst e; rw [HK.out] at hx; rw [← Option.some.inj hx]; exact HE.out
          · exact HO.out j (by omega) x hx
        case measure => simp [intOf]; omega
    · go_wp2
      go_ret
      refine ⟨ret_bool ?_, hb⟩
      rw [← HB.out]
      symm
      unfold isB
      rw [decide_eq_false_iff_not]
      rintro ⟨h0, hm⟩
      obtain ⟨j, hj, hx⟩ := List.getElem_of_mem hm
      rw [HN.out] at hj
      exact HO.out j (by omega) i.toNat (by rw [List.getElem?_eq_getElem (by rw [HN.out]; exact hj), hx]) (by omega)
end Go.Proofs.Ytgpnheaefagfiaa
