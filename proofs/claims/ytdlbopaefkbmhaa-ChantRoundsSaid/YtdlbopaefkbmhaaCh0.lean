/- Stage 31: small functions on floats; a tempo. -/
import Derived.Test.YtdlbopaefkbmhaaK0
import Derived.Test.YtdlbopaefkbmhaaChM
import Derived.Shelf.SlicesG.Cmp
import Derived.Shelf.Lay
import Derived.Ground.SlgcProg
namespace Go.Proofs.Ytdlbopaefkbmhaa
set_option linter.unusedVariables false
set_option linter.unusedSimpArgs false
open Go Go.RowKit Go.Shelf
set_option maxRecDepth 100000

shelf_lay_g SlLaysC2.n5 Slgc 5 at Try 28 as chCmp

section
variable {P : Program} {w : World} {a : Addr} {m : Mode}
@[go_sem] theorem run_store_float (k : FloatKind) (n : Nat) : (store a (.float k n) m).run P w = stored P w a (.float k n) m := run_store P w a _ m rfl
end

theorem cmp_any (a b : Int) (w : World) : Calls Try.prog 28 #[.int .i64 a, .int .i64 b] w fun e w' => e = .returned (.int .i64 (Lib.compareInt a b)) ∧ w' = w := by
  have h := AnyG.cmp_Compare_int chCmp a b w
  exact h

theorem neq_self (x : Nat) : (FloatKind.f64.format.order x x != some .eq) = fnan x := by
  show (ford x x != some .eq) = fnan x
  rcases ford_cases x x with ⟨h, h'⟩ | ⟨ha, hb, ⟨h, e⟩ | ⟨h, e⟩ | ⟨h, e⟩⟩
  · rw [h]; rcases h' with h' | h' <;> rw [h'] <;> rfl
  · omega
  · rw [e, ha]; rfl
  · omega

theorem late_any (x : Nat) (w : World) : Calls Try.prog 40 #[.float .f64 x] w fun e w' => e = .returned (.int .i64 (late x)) ∧ w' = w := by
  have h := neq_self x
  unfold late
  obtain ⟨b, hb⟩ : ∃ b, fnan x = b := ⟨_, rfl⟩
  rw [hb] at h ⊢
  go_enter Try.func40, Try.ntmps40
  cases b
  · go_wp2
    go_ret
    exact ⟨rfl, rfl⟩
  · go_wp2
    go_ret
    exact ⟨rfl, rfl⟩

theorem cmF_late {a b : Nat} (h : ford a b = none) : cmF a b = late a - late b := by
  unfold cmF flt fgt feq
  rw [h]; rfl

set_option maxHeartbeats 800000 in
theorem moments_any (a b : Nat) (w : World) : Calls Try.prog 27 #[.float .f64 a, .float .f64 b] w fun e w' => e = .returned (.int .i64 (cmF a b)) ∧ w' = w := by
  have hl : ∀ x, late x = 0 ∨ late x = 1 := fun x => by unfold late; cases fnan x <;> simp
  rcases ford_cases a b with ⟨h, _⟩ | ⟨_, _, ⟨_, h⟩ | ⟨_, h⟩ | ⟨_, h⟩⟩
  · rw [cmF_late h]
    have h' : FloatKind.f64.format.order a b = none := h
    have ha := hl a
    have hb := hl b
    obtain ⟨la, hla⟩ : ∃ l, late a = l := ⟨_, rfl⟩
    obtain ⟨lb, hlb⟩ : ∃ l, late b = l := ⟨_, rfl⟩
    have cA := fun W => late_any a W
    have cB := fun W => late_any b W
    rw [hla] at cA ha ⊢
    rw [hlb] at cB hb ⊢
    have j : IntKind.i64.wrap (la - lb) = la - lb := IntWalk.i64_in _ (by omega)
    clear hla hlb h hl
    go_enter Try.func27, Try.ntmps27
    go_wp2_with (fail)
    refine (cA _).mono ?_
    rintro e w' ⟨rfl, rfl⟩
    go_wp2_with (fail)
    refine (cB _).mono ?_
    rintro e w' ⟨rfl, rfl⟩
    go_wp2
    go_ret
    exact ⟨rfl, rfl⟩
  · have h' : FloatKind.f64.format.order a b = some .lt := h
    have e : cmF a b = -1 := by unfold cmF flt; rw [h]; rfl
    rw [e]
    clear h e hl
    go_enter Try.func27, Try.ntmps27
    go_wp2
    go_ret
    exact ⟨rfl, rfl⟩
  · have h' : FloatKind.f64.format.order a b = some .eq := h
    have e : cmF a b = 0 := by unfold cmF flt fgt feq; rw [h]; rfl
    rw [e]
    clear h e hl
    go_enter Try.func27, Try.ntmps27
    go_wp2
    go_ret
    exact ⟨rfl, rfl⟩
  · have h' : FloatKind.f64.format.order a b = some .gt := h
    have e : cmF a b = 1 := by unfold cmF flt fgt; rw [h]; rfl
    rw [e]
    clear h e hl
    go_enter Try.func27, Try.ntmps27
    go_wp2
    go_ret
    exact ⟨rfl, rfl⟩

theorem sub_self (x : Nat) (w : World) : (FloatKind.f64.format.order (fres .sub x x w) 0 == some .eq) = finB x := by
  have hr := fres_is .sub x x w
  have h0 : rd 0 = .number false 0 (-1074) := by decide
  show (ford (fres .sub x x w) 0 == some .eq) = finB x
  unfold FIs floatBits Ieee.Format.sub at hr
  change (match (((rd x).sum (rd x).opposite).map F64.write) with | some q => _ | none => _) at hr
  unfold finB
  cases e : rd x with
  | nan s t =>
    rw [e] at hr
    have : ford (fres .sub x x w) 0 = none := ford_none.2 (.inl hr)
    rw [this]; rfl
  | infinity s =>
    rw [e] at hr
    have hr' : fnan (fres .sub x x w) = true := by cases s <;> exact hr
    rw [ford_none.2 (.inl hr')]; rfl
  | number s m i =>
    rw [e] at hr
    have hz : (Ieee.Datum.sum (.number s m i) (Ieee.Datum.opposite (.number s m i))) = some (.number false 0 i) := by
      simp only [Ieee.Datum.opposite, Ieee.Datum.sum, Int.min_self, Int.sub_self, Int.toNat_zero]
      have : Ieee.signed s m 0 + Ieee.signed (!s) m 0 = 0 := by cases s <;> simp [Ieee.signed] <;> omega
      rw [this]
      cases s <;> simp
    rw [hz] at hr
    have h1 : fres .sub x x w = 0 := hr
    rw [h1]
    have : ford 0 0 = some .eq := by
      rw [ford_some (by unfold fnan; rw [h0]; rfl) (by unfold fnan; rw [h0]; rfl)]; simp
    rw [this]; rfl

theorem finite_any (x : Nat) (w : World) : Calls Try.prog 16 #[.float .f64 x] w fun e w' => e = .returned (.bool (finB x)) ∧ w' = w.drewN (fnd .sub x x) := by
  have h := sub_self x w
  go_enter Try.func16, Try.ntmps16
  go_wp2
  go_ret
  exact ⟨by simp [h], rfl⟩
theorem finiteD_any (x : Nat) (w : World) : Calls Try.prog 14 #[.float .f64 x] w fun e w' => e = .returned (.bool (finB x)) ∧ w' = w.drewN (fnd .sub x x) := by
  have h := sub_self x w
  go_enter Try.func14, Try.ntmps14
  go_wp2
  go_ret
  exact ⟨by simp [h], rfl⟩

/-- A nought without a sign. -/
def plainF (x : Nat) : Nat := if feq x 0 then 0 else x
theorem plain_any (x : Nat) (w : World) : Calls Try.prog 18 #[.float .f64 x] w fun e w' => e = .returned (.float .f64 (plainF x)) ∧ w' = w := by
  obtain ⟨b, hb⟩ : ∃ b, feq x 0 = b := ⟨_, rfl⟩
  have h : (FloatKind.f64.format.order x 0 == some .eq) = b := hb
  unfold plainF
  rw [hb]
  clear hb
  go_enter Try.func18, Try.ntmps18
  cases b <;> go_wp2 <;> go_ret <;> exact ⟨rfl, rfl⟩
theorem plainD_any (x : Nat) (w : World) : Calls Try.prog 15 #[.float .f64 x] w fun e w' => e = .returned (.float .f64 (plainF x)) ∧ w' = w := by
  obtain ⟨b, hb⟩ : ∃ b, feq x 0 = b := ⟨_, rfl⟩
  have h : (FloatKind.f64.format.order x 0 == some .eq) = b := hb
  unfold plainF
  rw [hb]
  clear hb
  go_enter Try.func15, Try.ntmps15
  cases b <;> go_wp2 <;> go_ret <;> exact ⟨rfl, rfl⟩
theorem plain_same {x y : Nat} (h : FSame x y) : FSame (plainF x) (plainF y) := by
  rcases h with rfl | ⟨a, b⟩
  · exact .refl _
  · have h1 : feq x 0 = false := by unfold feq; rw [ford_none.2 (.inl a)]; rfl
    have h2 : feq y 0 = false := by unfold feq; rw [ford_none.2 (.inl b)]; rfl
    unfold plainF
    rw [h1, h2]
    exact .inr ⟨a, b⟩
end Go.Proofs.Ytdlbopaefkbmhaa
