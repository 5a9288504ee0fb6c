/- The form that begins at a place, as the document's own answer finds it. -/
import Derived.Test.YtgpnheaefagfiaaEnc
import Derived.Deep.Light
import Derived.Deep.RegionHeld3
import Derived.BigQuiet
import Derived.Deep.QuietTactic
namespace Go.Proofs.Ytgpnheaefagfiaa
set_option linter.unusedVariables false
set_option linter.unusedSimpArgs false
open Go Go.RowKit
set_option maxRecDepth 100000

theorem below_drewN {B : Nat} {a w : World} (h : Below B a w) (n : Nat) : Below B a (w.drewN n) := h.trans ⟨rfl, rfl, rfl, Nat.le_refl _, fun _ _ => rfl⟩

/-- The forms of fewer than n bytes are ruled out. -/
def outF (s : ByteArray) (i n : Nat) : Prop := ∀ m, 1 ≤ m → m < n → isF s i m = false
theorem outF_next {s : ByteArray} {i n k : Nat} (h : outF s i n) (hk : k = n + 1) (h' : isF s i n = false) : outF s i k := by
  intro m h1 h2
  by_cases e : m = n
  · rw [e]; exact h'
  · exact h m h1 (by omega)

/-- Between two rounds of the document's Form. -/
def FmRel (s : ByteArray) (i : Nat) (w : World) (v : Value) (wr : World) : Prop := ∃ n : Nat, v = .int .i64 n ∧ 1 ≤ n ∧ n ≤ 5 ∧ Below w.heap.size w wr ∧ outF s i n

theorem fmRel_next {s : ByteArray} {i n k : Nat} {w w1 : World} {z : Int} (h1 : 1 ≤ n) (h4 : n ≤ 4) (ho : Hid (outF s i n)) (hk : k = n + 1) (hz : z = k) (h' : isF s i n = false) (hB : Below w.heap.size w w1) : FmRel s i w (.int .i64 z) w1 :=
  ⟨k, by rw [hz], by omega, by omega, hB, outF_next ho.out hk h'⟩

theorem fm_none {s : ByteArray} {i n : Nat} (hi : i < s.size) (ho : Hid (outF s i n)) (hn : n = 5 ∨ s.size < i + n) : fmR s i = 0 ∧ lenN s i = 0 := by
  have := lenN_of_none s i n hi ho.out hn
  exact ⟨by rw [fmR, if_pos this], this⟩

theorem fm_some {s : ByteArray} {i n : Nat} {R : Int} (h1 : 1 ≤ n) (hn : n ≤ 4) (hf : i + n ≤ s.size) (hno : Hid (noR R = false)) (hw : Hid (widZ R = n)) (he : Hid (Utf8.encode R = s.extract i (i + n))) : fmR s i = R ∧ lenN s i = n := by
  obtain ⟨_, h2, h3⟩ := form_of_enc s i n R h1 hn hf hno.out hw.out he.out
  exact ⟨by rw [fmR, if_neg (by omega)]; exact h2, h3⟩

set_option maxHeartbeats 4000000 in
theorem form_any (s : ByteArray) (i : Nat) (hi : i < s.size) (hs : s.size ≤ 281474976710656) (w : World) :
    Calls Try.prog 68 #[.string s, .int .i64 (i : Int)] w fun e w' => e = .returned (.tuple #[.int .i32 (fmR s i), .int .i64 (lenN s i : Nat)]) ∧ Below w.heap.size w w' := by
  have hb := bt_lt s i
  have hg := bt_get s i hi
  go_enter Try.func68, Try.ntmps68
  go_wp2
  go_loopw [6] (fun v wr => FmRel s i w v wr) (fun v _ => 5 - (intOf v).toNat)
  case atStart => exact ⟨1, rfl, by omega, by omega, Below.refl _ _, fun m h1 h2 => by omega⟩
  case round =>
    obtain ⟨n, rfl, h1, h5, hB, ho⟩ := hrel
    have HO := Lib.hid ho; clear ho
    rcases (show n = 1 ∨ n = 2 ∨ n = 3 ∨ n = 4 ∨ n = 5 by omega) with rfl | rfl | rfl | rfl | rfl
    · by_cases hfit : i + 1 ≤ s.size
      · obtain ⟨R, hR⟩ : ∃ R : Int, (bt s i : Int) = R := ⟨_, rfl⟩
        have HF : Hid (frZ s i 1 = R) := Lib.hid hR
        have hn := none_any R
        have hw := widthR_any R
        have he := encR_any R
        have f1 : IntKind.i64.wrap ((i : Int) + 1) = (i : Int) + 1 := IntWalk.i64_in _ (by omega)
        have f2 : (0 : Int) ≤ (i : Int) := by omega
        have f3 : (i : Int) ≤ (i : Int) + 1 := by omega
        have f4 : (i : Int) + 1 ≤ (s.size : Int) := by omega
        have f5 : ((i : Int) + 1).toNat = i + 1 := by omega
        cases hno : noR R with
        | true =>
          rw [hno] at hn
          have HNO := Lib.hid hno; clear hno
          go_wp2
          go_rounds 1
          go_quiet ((go_at_call 76; exact Calls.quiet_of_same ((hn _).mono (fun e w' h => ⟨h.1, h.2.symm⟩))))
          go_wp2
          go_roundw
          case rel => exact fmRel_next (by omega) (by omega) HO rfl rfl (noF s i 1 hi (by omega) (by omega) (by rw [HF.out]; rintro ⟨h, _⟩; rw [HNO.out] at h; cases h)) (below_drewN hB _)
          case measure => simp [intOf]
        | false =>
          rw [hno] at hn
          have HNO := Lib.hid hno; clear hno
          by_cases hwz : widZ R = 1
          · rw [hwz] at hw
            have HW := Lib.hid hwz; clear hwz
            by_cases hen : Utf8.encode R = s.extract i (i + 1)
            · have hen' : ((Utf8.encode R).toList == (s.extract i (i + 1)).toList) = true := beq_iff_eq.2 (by rw [hen])
              have HE := Lib.hid hen; clear hen
              go_wp2
              go_rounds 1
              go_region_held3 (fun _ => True) (first | trivial) (first | (go_at_call 76; refine (hn _).mono ?_; rintro e w' ⟨rfl, rfl⟩) | (go_at_call 38; refine (hw _).mono ?_; rintro e w' ⟨rfl, rfl⟩) | (go_at_call 40; refine (he _).mono ?_; rintro e w1 ⟨rfl, hbw⟩))
              go_wp2
              go_ret2
              have hfin := fm_some (by omega) (by omega) hfit HNO HW HE
              exact ⟨by rw [hfin.1, hfin.2]; rfl, (hB.drew).trans (hbw.mono hB.size)⟩
            · have hen' : ((Utf8.encode R).toList == (s.extract i (i + 1)).toList) = false := by rw [beq_eq_false_iff_ne]; exact fun h => hen (by apply ByteArray.ext; apply Array.ext'; simpa [ByteArray.toList_eq] using h)
              have HE := Lib.hid hen; clear hen
              go_wp2
              go_rounds 1
              go_region_held3 (fun _ => True) (first | trivial) (first | (go_at_call 76; refine (hn _).mono ?_; rintro e w' ⟨rfl, rfl⟩) | (go_at_call 38; refine (hw _).mono ?_; rintro e w' ⟨rfl, rfl⟩) | (go_at_call 40; refine (he _).mono ?_; rintro e w1 ⟨rfl, hbw⟩))
              go_wp2
              go_roundw
              case rel => exact fmRel_next (by omega) (by omega) HO rfl rfl (noF s i 1 hi (by omega) (by omega) (by rw [HF.out]; rintro ⟨_, _, h⟩; exact HE.out h)) ((hB.drew).trans (hbw.mono hB.size))
              case measure => simp [intOf]
          · have hwz' : ((widZ R : Int) == 1) = false := by rw [beq_eq_false_iff_ne]; omega
            have HW := Lib.hid hwz; clear hwz
            go_wp2
            go_rounds 1
            go_quiet (first | (go_at_call 76; exact Calls.quiet_of_same ((hn _).mono (fun e w' h => ⟨h.1, h.2.symm⟩))) | (go_at_call 38; exact Calls.quiet_of_same ((hw _).mono (fun e w' h => ⟨h.1, h.2.symm⟩))))
            go_wp2
            go_roundw
            case rel => exact fmRel_next (by omega) (by omega) HO rfl rfl (noF s i 1 hi (by omega) (by omega) (by rw [HF.out]; rintro ⟨_, h, _⟩; exact HW.out h)) (below_drewN hB _)
            case measure => simp [intOf]
      · omega
    · by_cases hfit : i + 2 ≤ s.size
      · have hg1 := bt_get s (i + 1) (by omega)
        have hb1 := bt_lt s (i + 1)
        obtain ⟨R, hR⟩ : ∃ R : Int, ((bt s i : Int) - 192) * 64 + bt s (i + 1) - 128 = R := ⟨_, rfl⟩
        have HF : Hid (frZ s i 2 = R) := Lib.hid hR
        have hn := none_any R
        have hw := widthR_any R
        have he := encR_any R
        have f1 : IntKind.i64.wrap ((i : Int) + 2) = (i : Int) + 2 := IntWalk.i64_in _ (by omega)
        have f2 : (0 : Int) ≤ (i : Int) := by omega
        have f3 : (i : Int) ≤ (i : Int) + 2 := by omega
        have f4 : (i : Int) + 2 ≤ (s.size : Int) := by omega
        have f5 : ((i : Int) + 2).toNat = i + 2 := by omega
        cases hno : noR R with
        | true =>
          rw [hno] at hn
          have HNO := Lib.hid hno; clear hno
          go_wp2
          go_rounds 2
          go_quiet ((go_at_call 76; exact Calls.quiet_of_same ((hn _).mono (fun e w' h => ⟨h.1, h.2.symm⟩))))
          go_wp2
          go_roundw
          case rel => exact fmRel_next (by omega) (by omega) HO rfl rfl (noF s i 2 hi (by omega) (by omega) (by rw [HF.out]; rintro ⟨h, _⟩; rw [HNO.out] at h; cases h)) (below_drewN hB _)
          case measure => simp [intOf]
        | false =>
          rw [hno] at hn
          have HNO := Lib.hid hno; clear hno
          by_cases hwz : widZ R = 2
          · rw [hwz] at hw
            have HW := Lib.hid hwz; clear hwz
            by_cases hen : Utf8.encode R = s.extract i (i + 2)
            · have hen' : ((Utf8.encode R).toList == (s.extract i (i + 2)).toList) = true := beq_iff_eq.2 (by rw [hen])
              have HE := Lib.hid hen; clear hen
              go_wp2
              go_rounds 2
              go_region_held3 (fun _ => True) (first | trivial) (first | (go_at_call 76; refine (hn _).mono ?_; rintro e w' ⟨rfl, rfl⟩) | (go_at_call 38; refine (hw _).mono ?_; rintro e w' ⟨rfl, rfl⟩) | (go_at_call 40; refine (he _).mono ?_; rintro e w1 ⟨rfl, hbw⟩))
              go_wp2
              go_ret2
              have hfin := fm_some (by omega) (by omega) hfit HNO HW HE
              exact ⟨by rw [hfin.1, hfin.2]; rfl, (hB.drew).trans (hbw.mono hB.size)⟩
            · have hen' : ((Utf8.encode R).toList == (s.extract i (i + 2)).toList) = false := by rw [beq_eq_false_iff_ne]; exact fun h => hen (by apply ByteArray.ext; apply Array.ext'; simpa [ByteArray.toList_eq] using h)
              have HE := Lib.hid hen; clear hen
              go_wp2
              go_rounds 2
              go_region_held3 (fun _ => True) (first | trivial) (first | (go_at_call 76; refine (hn _).mono ?_; rintro e w' ⟨rfl, rfl⟩) | (go_at_call 38; refine (hw _).mono ?_; rintro e w' ⟨rfl, rfl⟩) | (go_at_call 40; refine (he _).mono ?_; rintro e w1 ⟨rfl, hbw⟩))
              go_wp2
              go_roundw
              case rel => exact fmRel_next (by omega) (by omega) HO rfl rfl (noF s i 2 hi (by omega) (by omega) (by rw [HF.out]; rintro ⟨_, _, h⟩; exact HE.out h)) ((hB.drew).trans (hbw.mono hB.size))
              case measure => simp [intOf]
          · have hwz' : ((widZ R : Int) == 2) = false := by rw [beq_eq_false_iff_ne]; omega
            have HW := Lib.hid hwz; clear hwz
            go_wp2
            go_rounds 2
            go_quiet (first | (go_at_call 76; exact Calls.quiet_of_same ((hn _).mono (fun e w' h => ⟨h.1, h.2.symm⟩))) | (go_at_call 38; exact Calls.quiet_of_same ((hw _).mono (fun e w' h => ⟨h.1, h.2.symm⟩))))
            go_wp2
            go_roundw
            case rel => exact fmRel_next (by omega) (by omega) HO rfl rfl (noF s i 2 hi (by omega) (by omega) (by rw [HF.out]; rintro ⟨_, h, _⟩; exact HW.out h)) (below_drewN hB _)
            case measure => simp [intOf]
      · go_wp2
        go_ret2
        have hfin := fm_none hi HO (.inr (by omega))
        exact ⟨by rw [hfin.1, hfin.2]; rfl, hB⟩
    · by_cases hfit : i + 3 ≤ s.size
      · have hg1 := bt_get s (i + 1) (by omega)
        have hb1 := bt_lt s (i + 1)
        have hg2 := bt_get s (i + 2) (by omega)
        have hb2 := bt_lt s (i + 2)
        obtain ⟨R, hR⟩ : ∃ R : Int, (((bt s i : Int) - 224) * 64 + bt s (i + 1) - 128) * 64 + bt s (i + 2) - 128 = R := ⟨_, rfl⟩
        have HF : Hid (frZ s i 3 = R) := Lib.hid hR
        have hn := none_any R
        have hw := widthR_any R
        have he := encR_any R
        have f1 : IntKind.i64.wrap ((i : Int) + 3) = (i : Int) + 3 := IntWalk.i64_in _ (by omega)
        have f2 : (0 : Int) ≤ (i : Int) := by omega
        have f3 : (i : Int) ≤ (i : Int) + 3 := by omega
        have f4 : (i : Int) + 3 ≤ (s.size : Int) := by omega
        have f5 : ((i : Int) + 3).toNat = i + 3 := by omega
        cases hno : noR R with
        | true =>
          rw [hno] at hn
          have HNO := Lib.hid hno; clear hno
          go_wp2
          go_rounds 3
          go_quiet ((go_at_call 76; exact Calls.quiet_of_same ((hn _).mono (fun e w' h => ⟨h.1, h.2.symm⟩))))
          go_wp2
          go_roundw
          case rel => exact fmRel_next (by omega) (by omega) HO rfl rfl (noF s i 3 hi (by omega) (by omega) (by rw [HF.out]; rintro ⟨h, _⟩; rw [HNO.out] at h; cases h)) (below_drewN hB _)
          case measure => simp [intOf]
        | false =>
          rw [hno] at hn
          have HNO := Lib.hid hno; clear hno
          by_cases hwz : widZ R = 3
          · rw [hwz] at hw
            have HW := Lib.hid hwz; clear hwz
            by_cases hen : Utf8.encode R = s.extract i (i + 3)
            · have hen' : ((Utf8.encode R).toList == (s.extract i (i + 3)).toList) = true := beq_iff_eq.2 (by rw [hen])
              have HE := Lib.hid hen; clear hen
              go_wp2
              go_rounds 3
              go_region_held3 (fun _ => True) (first | trivial) (first | (go_at_call 76; refine (hn _).mono ?_; rintro e w' ⟨rfl, rfl⟩) | (go_at_call 38; refine (hw _).mono ?_; rintro e w' ⟨rfl, rfl⟩) | (go_at_call 40; refine (he _).mono ?_; rintro e w1 ⟨rfl, hbw⟩))
              go_wp2
              go_ret2
              have hfin := fm_some (by omega) (by omega) hfit HNO HW HE
              exact ⟨by rw [hfin.1, hfin.2]; rfl, (hB.drew).trans (hbw.mono hB.size)⟩
            · have hen' : ((Utf8.encode R).toList == (s.extract i (i + 3)).toList) = false := by rw [beq_eq_false_iff_ne]; exact fun h => hen (by apply ByteArray.ext; apply Array.ext'; simpa [ByteArray.toList_eq] using h)
              have HE := Lib.hid hen; clear hen
              go_wp2
              go_rounds 3
              go_region_held3 (fun _ => True) (first | trivial) (first | (go_at_call 76; refine (hn _).mono ?_; rintro e w' ⟨rfl, rfl⟩) | (go_at_call 38; refine (hw _).mono ?_; rintro e w' ⟨rfl, rfl⟩) | (go_at_call 40; refine (he _).mono ?_; rintro e w1 ⟨rfl, hbw⟩))
              go_wp2
              go_roundw
              case rel => exact fmRel_next (by omega) (by omega) HO rfl rfl (noF s i 3 hi (by omega) (by omega) (by rw [HF.out]; rintro ⟨_, _, h⟩; exact HE.out h)) ((hB.drew).trans (hbw.mono hB.size))
              case measure => simp [intOf]
          · have hwz' : ((widZ R : Int) == 3) = false := by rw [beq_eq_false_iff_ne]; omega
            have HW := Lib.hid hwz; clear hwz
            go_wp2
            go_rounds 3
            go_quiet (first | (go_at_call 76; exact Calls.quiet_of_same ((hn _).mono (fun e w' h => ⟨h.1, h.2.symm⟩))) | (go_at_call 38; exact Calls.quiet_of_same ((hw _).mono (fun e w' h => ⟨h.1, h.2.symm⟩))))
            go_wp2
            go_roundw
            case rel => exact fmRel_next (by omega) (by omega) HO rfl rfl (noF s i 3 hi (by omega) (by omega) (by rw [HF.out]; rintro ⟨_, h, _⟩; exact HW.out h)) (below_drewN hB _)
            case measure => simp [intOf]
      · go_wp2
        go_ret2
        have hfin := fm_none hi HO (.inr (by omega))
        exact ⟨by rw [hfin.1, hfin.2]; rfl, hB⟩
    · by_cases hfit : i + 4 ≤ s.size
      · have hg1 := bt_get s (i + 1) (by omega)
        have hb1 := bt_lt s (i + 1)
        have hg2 := bt_get s (i + 2) (by omega)
        have hb2 := bt_lt s (i + 2)
        have hg3 := bt_get s (i + 3) (by omega)
        have hb3 := bt_lt s (i + 3)
        obtain ⟨R, hR⟩ : ∃ R : Int, ((((bt s i : Int) - 240) * 64 + bt s (i + 1) - 128) * 64 + bt s (i + 2) - 128) * 64 + bt s (i + 3) - 128 = R := ⟨_, rfl⟩
        have HF : Hid (frZ s i 4 = R) := Lib.hid hR
        have hn := none_any R
        have hw := widthR_any R
        have he := encR_any R
        have f1 : IntKind.i64.wrap ((i : Int) + 4) = (i : Int) + 4 := IntWalk.i64_in _ (by omega)
        have f2 : (0 : Int) ≤ (i : Int) := by omega
        have f3 : (i : Int) ≤ (i : Int) + 4 := by omega
        have f4 : (i : Int) + 4 ≤ (s.size : Int) := by omega
        have f5 : ((i : Int) + 4).toNat = i + 4 := by omega
        cases hno : noR R with
        | true =>
          rw [hno] at hn
          have HNO := Lib.hid hno; clear hno
          go_wp2
          go_rounds 4
          go_quiet ((go_at_call 76; exact Calls.quiet_of_same ((hn _).mono (fun e w' h => ⟨h.1, h.2.symm⟩))))
          go_wp2
          go_roundw
          case rel => exact fmRel_next (by omega) (by omega) HO rfl rfl (noF s i 4 hi (by omega) (by omega) (by rw [HF.out]; rintro ⟨h, _⟩; rw [HNO.out] at h; cases h)) (below_drewN hB _)
          case measure => simp [intOf]
        | false =>
          rw [hno] at hn
          have HNO := Lib.hid hno; clear hno
          by_cases hwz : widZ R = 4
          · rw [hwz] at hw
            have HW := Lib.hid hwz; clear hwz
            by_cases hen : Utf8.encode R = s.extract i (i + 4)
            · have hen' : ((Utf8.encode R).toList == (s.extract i (i + 4)).toList) = true := beq_iff_eq.2 (by rw [hen])
              have HE := Lib.hid hen; clear hen
              go_wp2
              go_rounds 4
              go_region_held3 (fun _ => True) (first | trivial) (first | (go_at_call 76; refine (hn _).mono ?_; rintro e w' ⟨rfl, rfl⟩) | (go_at_call 38; refine (hw _).mono ?_; rintro e w' ⟨rfl, rfl⟩) | (go_at_call 40; refine (he _).mono ?_; rintro e w1 ⟨rfl, hbw⟩))
              go_wp2
              go_ret2
              have hfin := fm_some (by omega) (by omega) hfit HNO HW HE
              exact ⟨by rw [hfin.1, hfin.2]; rfl, (hB.drew).trans (hbw.mono hB.size)⟩
            · have hen' : ((Utf8.encode R).toList == (s.extract i (i + 4)).toList) = false := by rw [beq_eq_false_iff_ne]; exact fun h => hen (by apply ByteArray.ext; apply Array.ext'; simpa [ByteArray.toList_eq] using h)
              have HE := Lib.hid hen; clear hen
              go_wp2
              go_rounds 4
              go_region_held3 (fun _ => True) (first | trivial) (first | (go_at_call 76; refine (hn _).mono ?_; rintro e w' ⟨rfl, rfl⟩) | (go_at_call 38; refine (hw _).mono ?_; rintro e w' ⟨rfl, rfl⟩) | (go_at_call 40; refine (he _).mono ?_; rintro e w1 ⟨rfl, hbw⟩))
              go_wp2
              go_roundw
              case rel => exact fmRel_next (by omega) (by omega) HO rfl rfl (noF s i 4 hi (by omega) (by omega) (by rw [HF.out]; rintro ⟨_, _, h⟩; exact HE.out h)) ((hB.drew).trans (hbw.mono hB.size))
              case measure => simp [intOf]
          · have hwz' : ((widZ R : Int) == 4) = false := by rw [beq_eq_false_iff_ne]; omega
            have HW := Lib.hid hwz; clear hwz
            go_wp2
            go_rounds 4
            go_quiet (first | (go_at_call 76; exact Calls.quiet_of_same ((hn _).mono (fun e w' h => ⟨h.1, h.2.symm⟩))) | (go_at_call 38; exact Calls.quiet_of_same ((hw _).mono (fun e w' h => ⟨h.1, h.2.symm⟩))))
            go_wp2
            go_roundw
            case rel => exact fmRel_next (by omega) (by omega) HO rfl rfl (noF s i 4 hi (by omega) (by omega) (by rw [HF.out]; rintro ⟨_, h, _⟩; exact HW.out h)) (below_drewN hB _)
            case measure => simp [intOf]
      · go_wp2
        go_ret2
        have hfin := fm_none hi HO (.inr (by omega))
        exact ⟨by rw [hfin.1, hfin.2]; rfl, hB⟩
    · go_wp2
      go_ret2
      have hfin := fm_none hi HO (.inl rfl)
      exact ⟨by rw [hfin.1, hfin.2]; rfl, hB⟩
end Go.Proofs.Ytgpnheaefagfiaa
