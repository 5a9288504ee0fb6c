/- ClassLower: the law's call. -/
import Derived.Test.YtkikopjbaonbpaaOt
import Derived.Test.YtkikopjbaonbpaaLawHead
namespace Go.Proofs.Ytkikopjbaonbpaa
set_option linter.unusedVariables false
set_option linter.unusedSimpArgs false
open Go Go.RowKit
set_option maxRecDepth 100000

theorem restU_app (a b : List Un) : restU (a ++ b) = restU a ++ restU b := by simp [restU]
theorem restU_run : ∀ zs : List Int, (∀ z ∈ zs, leB z = true ∧ 0 ≤ z) → restU (zs.map unZ) = [] := by
  intro zs
  induction zs with
  | nil => intro _; rfl
  | cons z zs ih =>
    intro h
    obtain ⟨h1, h2⟩ := h z (by simp)
    have hl : leB (unZ z).1 = true := by
      rw [show ((unZ z).1 : Int) = z by show ((z.toNat : Nat) : Int) = z; omega]; exact h1
    rw [List.map_cons, show unZ z :: zs.map unZ = [unZ z] ++ zs.map unZ from rfl, restU_app, ih (fun z hz => h z (List.mem_cons_of_mem _ hz)), List.append_nil]
    exact restU_t (u := unZ z) hl []
theorem rest_out (zg : Int → Bool → Bool → List Int) (H : ∀ (r : Int) (a b : Bool), leB r = true → ∀ z ∈ zg r a b, leB z = true) : ∀ (us : List Un) (led : Bool), restU (outN zg led us) = restU us := by
  intro us
  induction us with
  | nil => intro led; rfl
  | cons u us ih =>
    intro led
    rw [show u :: us = [u] ++ us from rfl, restU_app]
    cases hl : leB u.1 with
    | true =>
      have h1 := restU_t (u := u) hl []
      rw [show [u] ++ us = u :: us from rfl, outN_t hl, restU_app, restU_run _ (fun z hz => ⟨H u.1 led _ hl z hz, le_nn (H u.1 led _ hl z hz)⟩), ih]
      rw [show restU [u] = [] from h1]
    | false =>
      rw [show [u] ++ us = u :: us from rfl, outN_f hl, show ∀ l : List Un, u :: l = [u] ++ l from fun _ => rfl, restU_app, ih]
theorem len_one (zg : Int → Bool → Bool → List Int) (H : ∀ r a b, (zg r a b).length = 1) : ∀ (us : List Un) (led : Bool), (outN zg led us).length = us.length := by
  intro us
  induction us with
  | nil => intro led; rfl
  | cons u us ih =>
    intro led
    cases hl : leB u.1 with
    | true => rw [outN_t hl, List.length_append, List.length_map, H, ih, List.length_cons]; omega
    | false => rw [outN_f hl, List.length_cons, ih, List.length_cons]
theorem sharp_cons (u : Un) (l : List Un) : sharpU (u :: l) = (if leB u.1 = true ∧ u.1 = 223 then 1 else 0) + sharpU l := by
  unfold sharpU
  rw [List.filter_cons]
  by_cases h : leB u.1 = true ∧ u.1 = 223
  · rw [if_pos h, if_pos (by rw [h.1, h.2]; rfl), List.length_cons]; omega
  · rw [if_neg h, if_neg (by intro hh; rw [Bool.and_eq_true, beq_iff_eq] at hh; exact h hh)]; omega
theorem len_up : ∀ (us : List Un) (led : Bool), (outN zu led us).length = us.length + sharpU us := by
  intro us
  induction us with
  | nil => intro led; rfl
  | cons u us ih =>
    intro led
    rw [sharp_cons]
    cases hl : leB u.1 with
    | true =>
      rw [outN_t hl, List.length_append, List.length_map, ih, List.length_cons]
      unfold zu
      by_cases h : (u.1 : Int) = 223
      · rw [if_pos h, if_pos ⟨rfl, by omega⟩]; show 2 + _ = _; omega
      · rw [if_neg h, if_neg (fun hh => h (by omega))]; show 1 + _ = _; omega
    | false =>
      rw [outN_f hl, List.length_cons, ih, List.length_cons, if_neg (by simp)]; omega

theorem headText_tx (s : ByteArray) (hs : s.size ≤ 17179869184) (w : World) :
    Calls Try.prog 20 #[.string s] w fun e w' => e = .returned (.string (txH s)) ∧ Below w.heap.size w w' := by
  have h := headText_any s hs w
  have ht : (⟨(tuS s hdG (posns s)).2.toArray⟩ : ByteArray) = txH s := tuS_units s hdG
  rw [ht] at h
  exact h

theorem lower_law (s : ByteArray) (hs : s.size ≤ 2147483647) (w : World) :
    Calls Try.prog 7 #[.string s] w fun e w' => e = .returned (.bool true) ∧ Below w.heap.size w w' := by
  have cB := beyond_any s.size (by omega)
  have hlL := tx_len s lwG lwG_le
  have cL1 := lowerText_any s (by omega)
  have cD := lowerD_text s (by omega)
  have cL2 := lowerText_any (txL s) (by show (outU lwG false (units s)).size ≤ _; omega)
  rw [low_low] at cL2
  obtain ⟨L, hL⟩ : ∃ L, txL s = L := ⟨_, rfl⟩
  rw [hL] at cL1 cL2 cD
  clear hlL hL
  have m1 := trivial
  go_enter Try.func7, Try.ntmps7
  go_wp2_with (first | (go_at_call 9; refine (cB _).mono ?_; rintro e w' ⟨rfl, rfl⟩) | (go_at_call 12; clear m1; refine (cL1 _).mono ?_; rintro e w1 ⟨rfl, hb1⟩) | (go_at_call 18; refine (cD _).mono ?_; rintro e w2 ⟨rfl, hb2⟩) | (go_at_call 12; refine (cL2 _).mono ?_; rintro e w3 ⟨rfl, hb3⟩))
  go_ret
  exact ⟨rfl, hb1.trans ((hb2.mono hb1.size).trans (hb3.mono (Nat.le_trans hb1.size hb2.size)))⟩

set_option maxHeartbeats 4000000 in
theorem stay_law (s : ByteArray) (hs : 2 * s.size ≤ 2147483647) (w : World) :
    Calls Try.prog 8 #[.string s] w fun e w' => e = .returned (.bool true) ∧ Below w.heap.size w w' := by
  have cB := beyond_any (2 * (s.size : Int)) (by omega)
  have hlU := tx_len s upG upG_le
  have hlL := tx_len s lwG lwG_le
  have hlH := tx_len s hdG hdG_le
  have cU := upperText_any s (by omega)
  have cL := lowerText_any s (by omega)
  have cH := headText_tx s (by omega)
  have o0 := others_any s (by omega)
  have oL := others_any (txL s) (by show (outU lwG false (units s)).size ≤ _; omega)
  have oU := others_any (txU s) (by show (outU upG false (units s)).size ≤ _; omega)
  have oH := others_any (txH s) (by show (outU hdG false (units s)).size ≤ _; omega)
  have hul : (units s).length = (posns s).length := List.length_map _
  have hpl := posns_len s
  have hsl := sharpU_le (units s)
  rw [unitsL, rest_out zl zl_le, len_one zl (fun _ _ _ => rfl)] at oL
  rw [unitsU, rest_out zu zu_le, len_up] at oU
  rw [unitsH, rest_out zh zh_le, len_one zh (fun r a b => by unfold zh; split <;> rfl)] at oH
  obtain ⟨R, hR⟩ : ∃ R, (⟨(restU (units s)).toArray⟩ : ByteArray) = R := ⟨_, rfl⟩
  obtain ⟨SL, hSL⟩ : ∃ x, sharpU (outN zl false (units s)) = x := ⟨_, rfl⟩
  obtain ⟨SU, hSU⟩ : ∃ x, sharpU (outN zu false (units s)) = x := ⟨_, rfl⟩
  obtain ⟨SH, hSH⟩ : ∃ x, sharpU (outN zh false (units s)) = x := ⟨_, rfl⟩
  obtain ⟨S, hS⟩ : ∃ S, sharpU (units s) = S := ⟨_, rfl⟩
  obtain ⟨n, hn⟩ : ∃ n, (units s).length = n := ⟨_, rfl⟩
  obtain ⟨tL, htL⟩ : ∃ t, txL s = t := ⟨_, rfl⟩
  obtain ⟨tU, htU⟩ : ∃ t, txU s = t := ⟨_, rfl⟩
  obtain ⟨tH, htH⟩ : ∃ t, txH s = t := ⟨_, rfl⟩
  rw [hR, hS, hn] at o0
  rw [hR, hSL, hn, htL] at oL
  rw [hR, hSU, hS, hn, htU] at oU
  rw [hR, hSH, hn, htH] at oH
  rw [htL] at cL
  rw [htU] at cU
  rw [htH] at cH
  rw [hn] at hul
  rw [hS, hn] at hsl
  have hnb : n ≤ 2147483647 := by omega
  have hsum : (((n + S : Nat) : Int) == ((n : Int) + (S : Int))) = true := by rw [beq_iff_eq]; omega
  clear hlU hlL hlH hul hpl hR hSL hSU hSH hS hn htL htU htH
  have m1 := trivial
  have m2 := trivial
  have m3 := trivial
  go_enter Try.func8, Try.ntmps8
  go_wp2_with (first | (go_at_call 6; refine (live_any _).mono ?_; rintro e w' ⟨rfl, rfl⟩) | (go_at_call 9; refine (cB _).mono ?_; rintro e w' ⟨rfl, rfl⟩) | (go_at_call 19; clear m1; refine (o0 _).mono ?_; rintro e w1 ⟨rfl, hb1⟩) | (go_at_call 12; refine (cL _).mono ?_; rintro e w2 ⟨rfl, hb2⟩) | (go_at_call 19; clear m2; refine (oL _).mono ?_; rintro e w3 ⟨rfl, hb3⟩) | (go_at_call 10; refine (cU _).mono ?_; rintro e w4 ⟨rfl, hb4⟩) | (go_at_call 19; clear m3; refine (oU _).mono ?_; rintro e w5 ⟨rfl, hb5⟩) | (go_at_call 20; refine (cH _).mono ?_; rintro e w6 ⟨rfl, hb6⟩) | (go_at_call 19; refine (oH _).mono ?_; rintro e w7 ⟨rfl, hb7⟩))
  go_ret
  have B1 := hb1
  have B2 := B1.trans (hb2.mono B1.size)
  have B3 := B2.trans (hb3.mono B2.size)
  have B4 := B3.trans (hb4.mono B3.size)
  have B5 := B4.trans (hb5.mono B4.size)
  have B6 := B5.trans (hb6.mono B5.size)
  exact ⟨rfl, B6.trans (hb7.mono B6.size)⟩

theorem lower_all (s : ByteArray) (w : World) :
    Calls Try.prog 7 #[.string s] w fun e w' => e = .returned (.bool true) ∧ Below w.heap.size w w' := by
  by_cases hs : s.size ≤ 2147483647
  · exact lower_law s hs w
  · have cB := beyond_yes s.size (by omega)
    go_enter Try.func7, Try.ntmps7
    go_wp2_with (first | (go_at_call 9; refine (cB _).mono ?_; rintro e w' ⟨rfl, rfl⟩))
    go_ret
    exact ⟨rfl, Below.refl _ _⟩
theorem stay_all (s : ByteArray) (hz : s.size ≤ 140737488351232) (w : World) :
    Calls Try.prog 8 #[.string s] w fun e w' => e = .returned (.bool true) ∧ Below w.heap.size w w' := by
  by_cases hs : 2 * s.size ≤ 2147483647
  · exact stay_law s hs w
  · have cB := beyond_yes (2 * (s.size : Int)) (by omega)
    have hwr : IntKind.i64.wrap (2 * (s.size : Int)) = 2 * (s.size : Int) := IntWalk.i64_in _ (by omega)
    go_enter Try.func8, Try.ntmps8
    go_wp2_with (first | (go_at_call 6; refine (live_any _).mono ?_; rintro e w' ⟨rfl, rfl⟩) | (go_at_call 9; refine (cB _).mono ?_; rintro e w' ⟨rfl, rfl⟩))
    go_ret
    exact ⟨rfl, Below.refl _ _⟩

theorem classLower_any (s : ByteArray) (hs : s.size ≤ 140737488351232) (w : World) :
    Calls Try.prog 3 #[.string s] w fun e w' => e = .returned (.bool true) ∧ Below w.heap.size w w' := by
  have cL := lower_all s
  have cS := stay_all s hs
  go_enter Try.func3, Try.ntmps3
  go_wp2_with (first | (go_at_call 6; refine (live_any _).mono ?_; rintro e w' ⟨rfl, rfl⟩) | (go_at_call 7; refine (cL _).mono ?_; rintro e w1 ⟨rfl, hb1⟩) | (go_at_call 8; refine (cS _).mono ?_; rintro e w2 ⟨rfl, hb2⟩))
  go_ret
  exact ⟨rfl, hb1.trans (hb2.mono hb1.size)⟩
end Go.Proofs.Ytkikopjbaonbpaa
