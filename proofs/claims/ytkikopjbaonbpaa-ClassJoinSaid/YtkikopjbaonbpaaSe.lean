/- Layer 3: does a piece of two texts lie across where they meet? -/
import Derived.Test.YtkikopjbaonbpaaJo
import Derived.Test.YtkikopjbaonbpaaLawLower
import Derived.BigQuiet
namespace Go.Proofs.Ytkikopjbaonbpaa
set_option linter.unusedVariables false
set_option linter.unusedSimpArgs false
open Go Go.RowKit
set_option maxRecDepth 100000

theorem below_drewN3 {B : Nat} {a w : World} (h : Below B a w) (n : Nat) : Below B a (w.drewN n) := h.trans ⟨rfl, rfl, rfl, Nat.le_refl _, fun _ _ => rfl⟩

def across (a b : ByteArray) (p : Nat) : Bool := decide (p < a.size) && decide (a.size < p + wd (a ++ b) p)
def seamB (a b : ByteArray) (l : List Nat) : Bool := l.any (across a b)
theorem seamB_no {a b : ByteArray} {l : List Nat} (h : seamB a b l = false) : noSeam a b l := by
  intro p hp hh
  have h1 : across a b p = true := by unfold across; rw [decide_eq_true hh.1, decide_eq_true hh.2]; rfl
  have h2 : seamB a b l = true := List.any_eq_true.2 ⟨p, hp, h1⟩
  rw [h] at h2; cases h2
theorem seamB_snoc (a b : ByteArray) (l : List Nat) (p : Nat) : seamB a b (l ++ [p]) = (seamB a b l || across a b p) := by simp [seamB]
theorem seamB_here {a b : ByteArray} {l : List Nat} {p : Nat} (hp : p ∈ l) (h : across a b p = true) : seamB a b l = true := List.any_eq_true.2 ⟨p, hp, h⟩

def SmRel (a b : ByteArray) (n : Nat) (pv : Value) (w : World) (i : Value) (wr : World) : Prop :=
  ∃ k : Nat, i = .int .i64 k ∧ k ≤ n ∧ seamB a b ((posns (a ++ b)).take k) = false ∧ wr.ownsRow w.heap.size 31 4 pv n (pcs (a ++ b) (posns (a ++ b))) ∧ Below w.heap.size w wr

set_option maxHeartbeats 4000000 in
theorem seam_any (a b : ByteArray) (hs : a.size + b.size ≤ 2147483647) (w : World) :
    Calls Try.prog 13 #[.string a, .string b] w fun e w' => e = .returned (.bool (seamB a b (posns (a ++ b)))) ∧ Below w.heap.size w w' := by
  have hsz : (a ++ b).size = a.size + b.size := ByteArray.size_append
  have hpl := posns_len (a ++ b)
  have cP := piecesD_any (a ++ b) (by omega)
  have hno : (9223372036854775807 < a.size + b.size) = False := by rw [eq_iff_iff]; exact ⟨fun h => by omega, False.elim⟩
  obtain ⟨SB, hSB⟩ : ∃ SB, seamB a b (posns (a ++ b)) = SB := ⟨_, rfl⟩
  have HSB := Lib.hid hSB
  rw [hSB]
  clear hSB
  have HSZ := Lib.hid hsz
  rw [hsz] at hpl
  clear hsz
  go_enter Try.func13, Try.ntmps13
  go_wp2_with (first | (go_at_call 14; refine (cP _).mono ?_; rintro e w1 ⟨pv, rfl, hown, hb1⟩; obtain ⟨o, cap, rfl, ho⟩ := own_slice hown))
  obtain ⟨n, hn⟩ : ∃ n, (posns (a ++ b)).length = n := ⟨_, rfl⟩
  have HN := Lib.hid hn
  simp only [hn] at hown hpl ho ⊢
  clear hn
  go_loopw [6] (fun i wr => SmRel a b n (.slice o n cap) w i wr) (fun i _ => n - (intOf i).toNat)
  case atStart => exact ⟨0, rfl, Nat.zero_le _, rfl, hown, hb1⟩
  case round =>
    clear hown hb1
    obtain ⟨k, rfl, hk, hsm, hp, hB⟩ := hrel
    by_cases hlt : k < n
    · obtain ⟨gp, rfl⟩ := ho (by omega)
      obtain ⟨p, hpk⟩ : ∃ p, (posns (a ++ b))[k]? = some p := ⟨_, List.getElem?_eq_getElem (by rw [HN.out]; exact hlt)⟩
      obtain ⟨d0, d1, d2, d3⟩ := nth_cells hp HN.out k hlt p hpk
      have hlti : (k : Int) < (n : Int) := by omega
      have htk : seamB a b ((posns (a ++ b)).take (k + 1)) = across a b p := by rw [take_next hpk, seamB_snoc, hsm]; rfl
      have hps := (posG_ge (a ++ b) 0 p (List.mem_of_getElem? hpk)).2
      have hwf := wd_fits (a ++ b) p hps
      rw [HSZ.out] at hwf hps
      have hme := List.mem_of_getElem? hpk
      have hin : across a b p = true → seamB a b (posns (a ++ b)) = true := fun h => seamB_here hme h
      have HIN := Lib.hid hin
      have HTK := Lib.hid htk
      clear hpk hme hin htk hsm
      by_cases h1 : p < a.size
      · by_cases h2 : a.size < p + wd (a ++ b) p
        · have hacr : across a b p = true := by unfold across; rw [decide_eq_true h1, decide_eq_true h2]; rfl
          have hret := HIN.out hacr
          rw [HSB.out] at hret
          have HR := Lib.hid hret
          obtain ⟨Wp, hWp⟩ : ∃ Wp, wd (a ++ b) p = Wp := ⟨_, rfl⟩
          rw [hWp] at h2 hwf d1
          have e1 : decide ((p : Int) < (a.size : Int)) = true := decide_eq_true (by omega)
          have e2 : decide ((a.size : Int) < (p : Int) + (Wp : Int)) = true := decide_eq_true (by omega)
          clear hacr hret hWp
          go_wp2
          go_quiet (fail)
          go_wp2
          go_ret
          exact ⟨by rw [HR.out]; rfl, below_drewN3 hB _⟩
        · have hacr : across a b p = false := by unfold across; rw [decide_eq_false h2]; simp
          rw [hacr] at HTK
          obtain ⟨Wp, hWp⟩ : ∃ Wp, wd (a ++ b) p = Wp := ⟨_, rfl⟩
          rw [hWp] at h2 hwf d1
          have e1 : decide ((p : Int) < (a.size : Int)) = true := decide_eq_true (by omega)
          have e2 : decide ((a.size : Int) < (p : Int) + (Wp : Int)) = false := decide_eq_false (by omega)
          clear hacr hWp
          go_wp2
          go_quiet (fail)
          go_wp2
          go_roundw
          case rel => exact ⟨k + 1, by go_num, by omega, HTK.out, drew_row hp, below_drewN3 hB _⟩
          case measure => simp [intOf]; omega
      · have hacr : across a b p = false := by unfold across; rw [decide_eq_false h1]; simp
        rw [hacr] at HTK
        obtain ⟨Wp, hWp⟩ : ∃ Wp, wd (a ++ b) p = Wp := ⟨_, rfl⟩
        rw [hWp] at hwf d1
        have e1 : decide ((p : Int) < (a.size : Int)) = false := decide_eq_false (by omega)
        clear hacr hWp
        go_wp2
        go_quiet (fail)
        go_wp2
        go_roundw
        case rel => exact ⟨k + 1, by go_num, by omega, HTK.out, drew_row hp, below_drewN3 hB _⟩
        case measure => simp [intOf]; omega
    · have hkn : k = n := by omega
      subst hkn
      have hret : SB = false := by rw [← HSB.out, ← hsm, ← HN.out, List.take_length]
      go_wp2
      go_ret
      exact ⟨by rw [hret]; rfl, hB⟩
end Go.Proofs.Ytkikopjbaonbpaa
