/- Stage 27: the document's reader: number. -/
import Derived.Test.YtjccoiephdopkaaDoorRe3
namespace Go.Proofs.YtjccoiephdopkaaDoor
set_option linter.unusedVariables false
set_option linter.unusedSimpArgs false
open Go Go.RowKit Go.Shelf
set_option maxRecDepth 100000

/-- The number that the document's reader has for n: n itself, unless both are great. -/
def Cap (v n : Nat) : Prop := (v = n ∨ (1099511627776 ≤ v ∧ 1099511627776 ≤ n)) ∧ v < 10995116277780
structure NubP (w : World) (B : Nat) (s : ByteArray) (p : Nat) (e : Ending) (w' : World) : Prop where
  h : ∃ v : Nat, e = .returned (.int .i64 v) ∧ ((numS s p = (none, p) ∧ v = 0 ∧ DdK w w' B s p (p : Int)) ∨ (∃ n q, numS s p = (some n, q) ∧ Cap v n ∧ DdK w w' B s q (-1)))
theorem Cap.go {v n d : Nat} (h : Cap v n) (hd : d ≤ 9) (hv : v < 1099511627776) : Cap (10 * v + d) (10 * n + d) := by
  rcases h with ⟨rfl | h, h2⟩
  · exact ⟨.inl rfl, by omega⟩
  · omega
theorem Cap.stay {v n d : Nat} (h : Cap v n) (hv : ¬ v < 1099511627776) : Cap v (10 * n + d) := by
  rcases h with ⟨rfl | h, h2⟩
  · exact ⟨.inr ⟨by omega, by omega⟩, h2⟩
  · exact ⟨.inr ⟨by omega, by omega⟩, h2⟩
set_option maxHeartbeats 4000000 in
theorem numberD_any {B p : Nat} {s : ByteArray} {w : World} (h : RdD w B s p (-1)) (hp : p ≤ s.size) (hs : s.size ≤ 1048576) :
    Calls Tryd.prog 33 #[.pointer (some ⟨B, 0, none⟩)] w (NubP w B s p) := by
  have cL := fun (Y : World) (hY : RdD Y B s p (-1)) => cD_ok hY hp hs
  obtain ⟨c, hc⟩ : ∃ c, lkN s p = c := ⟨_, rfl⟩
  rw [hc] at cL
  have HS := Lib.hid (DdK.start h)
  have HP := Lib.hid (And.intro hp (And.intro hs hc))
  by_cases hn : 49 ≤ c ∧ c ≤ 57
  · have hpI : (p : Int) ≤ 1048576 := by omega
    have a1 : ¬ (c : Int) < 49 := by omega
    have a2 : ¬ (57 : Int) < (c : Int) := by omega
    have HN := Lib.hid hn
    clear h hp hs hc hn
    go_enter Tryd.func33, Tryd.ntmps33
    go_wp2_with (first
      | (go_at_call 32; refine (cL _ HS.out.1).mono ?_; rintro e w1 ⟨rfl, y1, rfl⟩)
      | (go_at_call 32; refine (cL _ (HS.out.drew _).1).mono ?_; rintro e w1 ⟨rfl, y1, rfl⟩))
    go_loopw [3] (fun vn wr => ∃ (v n q : Nat), vn = .int .i64 v ∧ Hid (q ≤ s.size ∧ figS s p 0 = figS s q n ∧ Cap v n ∧ DdK w wr B s q (-1))) (fun _ wr => s.size - (match wr.cell? ⟨B, 1, none⟩ with | some v => (RowKit.intOf v).toNat | none => 0))
    case atStart => exact ⟨0, 0, p, rfl, HP.out.1, rfl, ⟨.inl rfl, by omega⟩, HS.out.drew _⟩
    case round =>
      obtain ⟨v, n, q, rfl, HR⟩ := hrel
      rename World => X
      obtain ⟨r1, r2, r3, r4⟩ := HR.out
      have hqI : (q : Int) ≤ 1048576 := by have := HP.out.2.1; omega
      obtain ⟨g, hg⟩ : ∃ g, lkN s q = g := ⟨_, rfl⟩
      have cG := fun (Y : World) (hY : RdD Y B s q (-1)) => cD_ok hY r1 HP.out.2.1
      rw [hg] at cG
      have HX := Lib.hid r4
      obtain ⟨k0, k1, k2, kf⟩ := r4.cells
      have HG := Lib.hid (And.intro r1 (And.intro r2 (And.intro r3 (And.intro hg k1))))
      have H9 := Lib.hid (show ∀ N, DdK w ((X.drewN N).setCell ⟨B, 1, none⟩ (.int .i64 ((q : Int) + 1))) B s (q + 1) (-1) from fun N => by have := (HX.out.drew N).to (q + 1); simpa using this)
      have kd1 : ∀ N, (X.drewN N).cell? ⟨B, 1, none⟩ = some (.int .i64 q) := fun N => k1
      have kdf : ∀ N o, (X.drewN N).frozen? ⟨B, o, none⟩ = false := fun N o => kf o
      clear cL a1 a2
      by_cases hf : 48 ≤ g ∧ g ≤ 57
      · obtain ⟨d, hd⟩ : ∃ d, g - 48 = d := ⟨_, rfl⟩
        have e1 : IntKind.u8.wrap ((g : Int) - 48) = (d : Int) := by rw [IntKind.wrap_u8]; omega
        have hdI : (d : Int) ≤ 9 := by omega
        have a1 : (48 : Int) ≤ (g : Int) := by omega
        have a2 : (g : Int) ≤ 57 := by omega
        have hgo : figS s q n = figS s (q + 1) (10 * n + d) := by rw [figS_go (by rw [hg]; exact hf), hg, hd]
        have hlt := lkN_lt hg (by omega)
        have HD := Lib.hid (And.intro hgo (And.intro hlt (show d ≤ 9 by omega)))
        clear hgo hlt hd hf hg r1 r2 r3 r4 HR
        by_cases hv : v < 1099511627776
        · have hvd : decide ((v : Int) < 1099511627776) = true := decide_eq_true (by omega)
          have hvI : (v : Int) < 1099511627776 := by omega
          have HV := Lib.hid hv
          clear hv
          go_wp2_with (first
            | (go_at_call 32; refine (cG _ HX.out.1).mono ?_; rintro e w1 ⟨rfl, y1, rfl⟩)
            | (go_at_call 32; refine (cG _ (HX.out.drew _).1).mono ?_; rintro e w1 ⟨rfl, y1, rfl⟩))
          go_roundw
          case rel => exact ⟨10 * v + d, 10 * n + d, q + 1, by go_num, HD.out.2.1, by rw [HG.out.2.1, HD.out.1], HG.out.2.2.1.go HD.out.2.2 HV.out, H9.out _⟩
          case measure =>
            rw [HG.out.2.2.2.2, (H9.out _).cells.2.1]
            have := HD.out.2.1
            simp [intOf]; omega
        · have hvd : decide ((v : Int) < 1099511627776) = false := decide_eq_false (by omega)
          have HV := Lib.hid hv
          clear hv
          go_wp2_with (first
            | (go_at_call 32; refine (cG _ HX.out.1).mono ?_; rintro e w1 ⟨rfl, y1, rfl⟩)
            | (go_at_call 32; refine (cG _ (HX.out.drew _).1).mono ?_; rintro e w1 ⟨rfl, y1, rfl⟩))
          go_roundw
          case rel => exact ⟨v, 10 * n + d, q + 1, rfl, HD.out.2.1, by rw [HG.out.2.1, HD.out.1], HG.out.2.2.1.stay HV.out, H9.out _⟩
          case measure =>
            rw [HG.out.2.2.2.2, (H9.out _).cells.2.1]
            have := HD.out.2.1
            simp [intOf]; omega
      · have hend : figS s q n = (n, q) := figS_end (by rw [hg]; exact hf)
        have hN : numS s p = (some n, q) := by unfold numS; rw [HP.out.2.2, if_pos HN.out, r2, hend]
        have HE := Lib.hid hN
        clear hend hN hg r1 r2 r3 r4 HR
        have hcc : g < 48 ∨ 57 < g := by omega
        rcases hcc with h5 | h5
        · have a1 : ¬ (48 : Int) ≤ (g : Int) := by omega
          clear h5 hf
          go_wp2_with (first
            | (go_at_call 32; refine (cG _ HX.out.1).mono ?_; rintro e w1 ⟨rfl, y1, rfl⟩)
            | (go_at_call 32; refine (cG _ (HX.out.drew _).1).mono ?_; rintro e w1 ⟨rfl, y1, rfl⟩))
          go_ret
          exact ⟨v, rfl, .inr ⟨n, q, HE.out, HG.out.2.2.1, HX.out.drew _⟩⟩
        · have a1 : (48 : Int) ≤ (g : Int) := by omega
          have a2 : ¬ (g : Int) ≤ 57 := by omega
          clear h5 hf
          go_wp2_with (first
            | (go_at_call 32; refine (cG _ HX.out.1).mono ?_; rintro e w1 ⟨rfl, y1, rfl⟩)
            | (go_at_call 32; refine (cG _ (HX.out.drew _).1).mono ?_; rintro e w1 ⟨rfl, y1, rfl⟩))
          go_ret
          exact ⟨v, rfl, .inr ⟨n, q, HE.out, HG.out.2.2.1, HX.out.drew _⟩⟩
  · have hN : numS s p = (none, p) := by unfold numS; rw [hc, if_neg hn]
    have HE := Lib.hid hN
    have hpI : (p : Int) ≤ 1048576 := by omega
    have hcc : c < 49 ∨ 57 < c := by omega
    obtain ⟨k0, k1, k2, kf⟩ := HS.out.cells
    have kd1 : ∀ N, (w.drewN N).cell? ⟨B, 1, none⟩ = some (.int .i64 p) := fun N => k1
    clear h hp hs hc hN hn
    rcases hcc with h5 | h5
    · have a1 : (c : Int) < 49 := by omega
      clear h5
      go_enter Tryd.func33, Tryd.ntmps33
      go_wp2_with (first
        | (go_at_call 32; refine (cL _ HS.out.1).mono ?_; rintro e w1 ⟨rfl, y1, rfl⟩)
        | (go_at_call 32; refine (cL _ (HS.out.drew _).1).mono ?_; rintro e w1 ⟨rfl, y1, rfl⟩)
        | (go_at_call 34; refine (badD_ok (HS.out.drew _).1 p).mono ?_; rintro e w5 ⟨rfl, rfl⟩))
      go_loopw [3] (fun vn wr => vn = .int .i64 0 ∧ Hid (DdK w wr B s p (p : Int))) (fun _ _ => 0)
      case atStart => exact ⟨rfl, (HS.out.drew _).bad p⟩
      case round =>
        obtain ⟨rfl, HR⟩ := hrel
        rename World => X
        have HX := Lib.hid HR.out
        clear HR
        go_wp2_with (go_at_call 32; refine (cD_bad HX.out.1 (by omega)).mono ?_; rintro e w2 ⟨rfl, y3, rfl⟩; have HK6 := Lib.hid (HX.out.drew y3))
        go_ret
        exact ⟨0, rfl, .inl ⟨HE.out, rfl, HK6.out⟩⟩
    · have a1 : ¬ (c : Int) < 49 := by omega
      have a2 : (57 : Int) < (c : Int) := by omega
      clear h5
      go_enter Tryd.func33, Tryd.ntmps33
      go_wp2_with (first
        | (go_at_call 32; refine (cL _ HS.out.1).mono ?_; rintro e w1 ⟨rfl, y1, rfl⟩)
        | (go_at_call 32; refine (cL _ (HS.out.drew _).1).mono ?_; rintro e w1 ⟨rfl, y1, rfl⟩)
        | (go_at_call 34; refine (badD_ok (HS.out.drew _).1 p).mono ?_; rintro e w5 ⟨rfl, rfl⟩))
      go_loopw [3] (fun vn wr => vn = .int .i64 0 ∧ Hid (DdK w wr B s p (p : Int))) (fun _ _ => 0)
      case atStart => exact ⟨rfl, (HS.out.drew _).bad p⟩
      case round =>
        obtain ⟨rfl, HR⟩ := hrel
        rename World => X
        have HX := Lib.hid HR.out
        clear HR
        go_wp2_with (go_at_call 32; refine (cD_bad HX.out.1 (by omega)).mono ?_; rintro e w2 ⟨rfl, y3, rfl⟩; have HK6 := Lib.hid (HX.out.drew y3))
        go_ret
        exact ⟨0, rfl, .inl ⟨HE.out, rfl, HK6.out⟩⟩
end Go.Proofs.YtjccoiephdopkaaDoor
