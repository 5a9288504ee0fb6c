/- Places: sort.Search; the last place of which a thing holds; what a map tells. -/
import Derived.Test.YtjlfdoonhfkabaaQd
namespace Go.Proofs.Ytjlfdoonhfkabaa
set_option linter.unusedVariables false
set_option linter.unusedSimpArgs false
open Go Go.RowKit Go.Shelf
set_option maxRecDepth 100000

def ScRel (n : Nat) (p : Nat → Bool) (w : World) (i j : Value) (wr : World) : Prop :=
  ∃ lo hi : Nat, i = .int .i64 lo ∧ j = .int .i64 hi ∧ lo ≤ hi ∧ hi ≤ n ∧ (∀ t, t < lo → p t = false) ∧ (∀ t, hi ≤ t → t < n → p t = true) ∧ Below w.heap.size w wr

set_option maxHeartbeats 1000000 in
theorem search_any (g : Nat) (cb : Array Value) (n : Nat) (p : Nat → Bool) (w : World) (eg : ∀ args w, (callFunc g args).run Try.prog w = .ok (.enter g args) w) (hsz : n ≤ 4294967296)
    (hf : ∀ (W : World) (i : Nat), Below w.heap.size w W → i < n → Calls Try.prog g (#[.int .i64 (i : Nat)] ++ cb) W fun e W' => e = .returned (.bool (p i)) ∧ Below W.heap.size W W')
    (hmono : ∀ a b, a ≤ b → b < n → p a = true → p b = true) :
    Calls Try.prog 49 #[.int .i64 n, .func (.func g) #[] cb] w fun e w' => e = .returned (.int .i64 ((List.range n).countP (fun i => !p i) : Nat)) ∧ Below w.heap.size w w' := by
  have hcp := countP_pre (q := fun i => !p i) n (fun a b hab hb h => by
    cases h2 : p a with
    | false => rfl
    | true =>
      have h3 := hmono a b hab hb h2
      simp only [h3] at h; cases h)
  obtain ⟨c, hc⟩ : ∃ c, (List.range n).countP (fun i => !p i) = c := ⟨_, rfl⟩
  rw [hc] at hcp ⊢
  have HC := Lib.hid hcp
  have HF := Lib.hid hf
  have HM := Lib.hid hmono
  clear hf hmono hc hcp
  go_enter Try.func49, Try.ntmps49
  go_wp2
  go_loopw [5, 6] (fun i j wr => ScRel n p w i j wr) (fun i j _ => (intOf j).toNat - (intOf i).toNat)
  case atStart => exact ⟨0, n, rfl, rfl, Nat.zero_le _, Nat.le_refl _, fun t h => absurd h (Nat.not_lt_zero _), fun t h1 h2 => by omega, Below.refl _ _⟩
  case round =>
    obtain ⟨lo, hi, rfl, rfl, hlh, hin, k1, k2, hB⟩ := hrel
    have K1 := Lib.hid k1
    have K2 := Lib.hid k2
    clear k1 k2
    by_cases hlt : lo < hi
    · have hcl := HF.out wr ((lo + hi) / 2) hB (by omega)
      rw [show (((lo + hi) / 2 : Nat) : Int) = ((lo : Int) + (hi : Int)) / 2 by omega] at hcl
      have hi1 : (lo : Int) < (hi : Int) := by omega
      cases hp : p ((lo + hi) / 2) <;> rw [hp] at hcl
      · have HP := Lib.hid hp
        clear hp
        go_wp2_with (first | (go_at_fn g; refine hcl.mono ?_; rintro e w' ⟨rfl, hb⟩))
        go_roundw
        case rel =>
          refine ⟨(lo + hi) / 2 + 1, hi, by rw [show (((lo + hi) / 2 + 1 : Nat) : Int) = ((lo : Int) + (hi : Int)) / 2 + 1 by omega], rfl, by omega, hin, fun t ht => ?_, K2.out, hB.trans (hb.mono hB.size)⟩
          cases h : p t with
          | false => rfl
          | true => have := HM.out t ((lo + hi) / 2) (by omega) (by omega) h; rw [HP.out] at this; cases this
        case measure => simp [intOf]; omega
      · have HP := Lib.hid hp
        clear hp
        go_wp2_with (first | (go_at_fn g; refine hcl.mono ?_; rintro e w' ⟨rfl, hb⟩))
        go_roundw
        case rel =>
          exact ⟨lo, (lo + hi) / 2, rfl, by rw [show (((lo + hi) / 2 : Nat) : Int) = ((lo : Int) + (hi : Int)) / 2 by omega], by omega, by omega, K1.out, fun t ht htn => HM.out ((lo + hi) / 2) t ht htn HP.out, hB.trans (hb.mono hB.size)⟩
        case measure => simp [intOf]; omega
    · obtain rfl : hi = lo := by omega
      obtain rfl : c = hi := by
        obtain ⟨c1, c2, c3⟩ := HC.out
        rcases Nat.lt_trichotomy c hi with h | h | h
        · have := c2 c (Nat.le_refl _) (by omega)
          rw [K1.out c h] at this; cases this
        · exact h
        · have := c1 hi h
          rw [K2.out hi (Nat.le_refl _) (by omega)] at this; cases this
      go_wp2
      go_ret
      exact ⟨rfl, hB⟩
end Go.Proofs.Ytjlfdoonhfkabaa
