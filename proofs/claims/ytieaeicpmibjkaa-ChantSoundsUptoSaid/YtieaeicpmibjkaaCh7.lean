/- Stage 31: Sounding, the program's and the document's. -/
import Derived.Test.YtieaeicpmibjkaaCh6
namespace Go.Proofs.Ytieaeicpmibjkaa
set_option linter.unusedVariables false
set_option linter.unusedSimpArgs false
open Go Go.RowKit Go.Shelf
set_option maxRecDepth 100000

/-- Is a float and another, added, above a third? -/
def gtA (a l t : Nat) : Bool := match floatBits .add .f64 a l with | some r => fgt r t | none => false
theorem gtA_is (a l t : Nat) (W : World) : (FloatKind.f64.format.order (fres .add a l W) t == some .gt) = gtA a l t := by
  have h := fres_is .add a l W
  unfold FIs at h
  unfold gtA
  show (ford (fres .add a l W) t == some .gt) = _
  cases e : floatBits .add .f64 a l with
  | some r => rw [e] at h; rw [show fres .add a l W = r from h]; rfl
  | none => rw [e] at h; rw [ford_none.2 (.inl h)]; rfl
/-- Does a note sound at a moment? -/
def sndB (x : Nt) (t : Nat) : Bool := (flt x.at' t || feq x.at' t) && gtA x.at' x.long t
def cnL (l : List Nt) (t : Nat) : Nat := (l.filter fun x => sndB x t).length
theorem cnL_app (a b : List Nt) (t : Nat) : cnL (a ++ b) t = cnL a t + cnL b t := by simp [cnL]
theorem cnL_le (l : List Nt) (t : Nat) : cnL l t ≤ l.length := List.length_filter_le _ _
theorem cnL_one (x : Nt) (t : Nat) : cnL [x] t = if sndB x t then 1 else 0 := by unfold cnL; cases h : sndB x t <;> simp [h]
def cntS (vs : List (List Nt)) (t : Nat) : Nat := cnL vs.flatten t
theorem flat_take {vs : List (List Nt)} {k : Nat} {l : List Nt} (h : vs[k]? = some l) : (vs.take (k + 1)).flatten = (vs.take k).flatten ++ l := by rw [take_nextL h]; simp
theorem flat_len (vs : List (List Nt)) : vs.flatten.length = tot vs := by simp [tot, List.length_flatten]

set_option maxHeartbeats 2000000 in
theorem sounds_any (x : Nt) (t : Nat) (w : World) : Calls Try.prog 43 #[.agg (encN x).toArray, .float .f64 t] w fun e w' => e = .returned (.bool (sndB x t)) ∧ Below w.heap.size w w' := by
  obtain ⟨xl, xb, xw, xs, xa, xo⟩ := x
  obtain ⟨f1, hf1⟩ : ∃ o, (FloatKind.f64.format.order xa t == some .lt) = o := ⟨_, rfl⟩
  obtain ⟨f2, hf2⟩ : ∃ o, (FloatKind.f64.format.order xa t == some .eq) = o := ⟨_, rfl⟩
  obtain ⟨f3, hf3⟩ : ∃ o, gtA xa xo t = o := ⟨_, rfl⟩
  have hs : sndB ⟨xl, xb, xw, xs, xa, xo⟩ t = ((f1 || f2) && f3) := by rw [← hf1, ← hf2, ← hf3]; rfl
  have hg : ∀ W, (FloatKind.f64.format.order (fres .add xa xo W) t == some .gt) = f3 := fun W => by rw [gtA_is, hf3]
  rw [hs]
  clear hs hf3
  simp only [encN]
  go_enter Try.func43, Try.ntmps43
  have hB := (Below.refl w.heap.size w).alloc (Nat.le_refl _) (.cells #[.int .i64 xl, .int .i64 xb, .int .i64 xw, .bool xs, .float .f64 xa, .float .f64 xo] 48)
  cases f1 <;> cases f2 <;> cases f3
  all_goals
    go_wp2
    go_ret
    exact ⟨rfl, ⟨hB.os, hB.tape, hB.output, hB.size, hB.block⟩⟩

def SnOsounding_any (vs : List (List Nt)) (t : Nat) (w : World) (i c : Value) (wr : World) : Prop := ∃ k : Nat, i = .int .i64 k ∧ k ≤ vs.length ∧ c = .int .i64 (cnL (vs.take k).flatten t : Nat) ∧ Below w.heap.size w wr
def SnIsounding_any (vs : List (List Nt)) (l : List Nt) (k t : Nat) (w : World) (i c : Value) (wr : World) : Prop := ∃ j : Nat, i = .int .i64 j ∧ j ≤ l.length ∧ c = .int .i64 ((cnL (vs.take k).flatten t + cnL (l.take j) t : Nat) : Int) ∧ Below w.heap.size w wr
set_option maxHeartbeats 8000000 in
theorem sounding_any (vs : List (List Nt)) (o : Option Addr) (cap t : Nat) (hn : vs.length ≤ 1099511627776) (ht : tot vs ≤ 1099511627776) (w : World) (hv : VoicesAt w o vs) :
    Calls Try.prog 28 #[.slice o vs.length cap, .float .f64 t] w fun e w' => e = .returned (.int .i64 (cntS vs t : Nat)) ∧ Below w.heap.size w w' := by
  go_enter Try.func28, Try.ntmps28
  go_wp2
  go_loopw [12, 5] (SnOsounding_any vs t w) (fun i _ _ => vs.length - (intOf i).toNat)
  case atStart => exact ⟨0, rfl, by omega, rfl, Below.refl _ _⟩
  case round =>
    obtain ⟨k, rfl, hk, rfl, hB⟩ := hrel
    by_cases hlt : k < vs.length
    · obtain ⟨l, hl⟩ : ∃ l, vs[k]? = some l := ⟨_, List.getElem?_eq_getElem hlt⟩
      obtain ⟨g, off, ol, cp, rfl, hc0, hr0⟩ := hv k l hl
      have hc : wr.cell? ⟨g, off + k, none⟩ = some (.slice ol l.length cp) := by rw [hB.cell (p := ⟨g, off + k, none⟩) (lt_cell hc0)]; exact hc0
      have htk := tot_take hl
      have hle := tot_le vs (k + 1)
      have hfk := flat_take hl
      have hcl0 : cnL (vs.take k).flatten t ≤ tot (vs.take k) := by rw [← flat_len]; exact cnL_le _ _
      have hl63 : l.length ≤ 1099511627776 := by omega
      have hI : SnIsounding_any vs l k t w (.int .i64 0) (.int .i64 (cnL (vs.take k).flatten t : Nat)) wr := ⟨0, rfl, by omega, by simp [cnL], hB⟩
      have hcb : cnL (vs.take k).flatten t + l.length ≤ 1099511627776 := by omega
      have HV := Lib.hid (And.intro hr0 hfk)
      clear hv hl htk hle hr0 hc0 hB hfk hcl0
      go_wp2
      go_loopw [18, 5] (SnIsounding_any vs l k t w) (fun j _ _ => l.length - (intOf j).toNat)
      case atStart => exact hI
      case round =>
        clear hI
        obtain ⟨j, rfl, hj, rfl, hB⟩ := hrel
        by_cases hlj : j < l.length
        · obtain ⟨x, hx⟩ : ∃ x, l[j]? = some x := ⟨_, List.getElem?_eq_getElem hlj⟩
          obtain ⟨gl, ofl, rfl, hcl⟩ := (HV.out.1.below encN_len (by decide) hB) j x hx
          have q0 := hcl 0 (by decide)
          have q1 := hcl 1 (by decide)
          have q2 := hcl 2 (by decide)
          have q3 := hcl 3 (by decide)
          have q4 := hcl 4 (by decide)
          have q5 := hcl 5 (by decide)
          clear hcl
          have hone := cnL_one x t
          have hnx : cnL (l.take (j + 1)) t = cnL (l.take j) t + cnL [x] t := by rw [take_nextL hx, cnL_app]
          have hle := cnL_le (l.take j) t
          have hlt2 : (l.take j).length ≤ l.length := by simp; omega
          have hjl : (l.take j).length ≤ j := by simp; omega
          have cS := fun W => sounds_any x t W
          obtain ⟨b, hb⟩ : ∃ b, sndB x t = b := ⟨_, rfl⟩
          rw [hb] at hone
          obtain ⟨xl, xb, xw, xs, xa, xo⟩ := x
          simp only [encN, List.getElem?_cons_succ, List.getElem?_cons_zero, Nat.add_zero] at q0 q1 q2 q3 q4 q5
          simp only [encN] at cS
          obtain ⟨c1, hc1⟩ : ∃ c, cnL (vs.take k).flatten t = c := ⟨_, rfl⟩
          obtain ⟨c2, hc2⟩ : ∃ c, cnL (l.take j) t = c := ⟨_, rfl⟩
          rw [hc1] at hcb ⊢
          rw [hc2] at hle hnx ⊢
          have hcb2 : c1 + c2 + 1 ≤ 1099511627776 := by omega
          have hsz := hB.size
          have hB2 := hB.alloc hsz (.cells #[.int .i64 xl, .int .i64 xb, .int .i64 xw, .bool xs, .float .f64 xa, .float .f64 xo] 48)
          have HH := Lib.hid (And.intro hc1 (And.intro hnx (And.intro hone hB2)))
          clear hc1 hc2 hnx hone hx hlt2 hle hB hB2 hjl
          rw [hb] at cS
          clear hb
          cases b
          all_goals
            go_wp2_with (fail)
            refine (cS _).mono ?_
            rintro e w4 ⟨rfl, hb4⟩
            have hB4 := HH.out.2.2.2.trans (hb4.mono HH.out.2.2.2.size)
            go_wp2
            go_roundw
            case rel =>
              obtain ⟨hc1, hnx, hone, hB2⟩ := HH.out
              exact ⟨j + 1, by go_num, by omega, by rw [hc1, hnx, hone]; go_num, hB4⟩
            case measure => simp [intOf]; omega
        · obtain rfl : j = l.length := by omega
          have hO : SnOsounding_any vs t w (.int .i64 (k + 1 : Nat)) (.int .i64 ((cnL (vs.take k).flatten t + cnL (l.take l.length) t : Nat) : Int)) wr := ⟨k + 1, rfl, by omega, by
            rw [HV.out.2, cnL_app, List.take_of_length_le (Nat.le_refl _)], hB⟩
          obtain ⟨z, hz⟩ : ∃ z, cnL (vs.take k).flatten t + cnL (l.take l.length) t = z := ⟨_, rfl⟩
          rw [hz] at hO ⊢
          have HO := Lib.hid hO
          clear hO hB hz
          go_wp2
          go_roundw
          case rel => exact HO.out
          case measure => simp [intOf]; omega
    · obtain rfl : k = vs.length := by omega
      have he : cnL (vs.take vs.length).flatten t = cntS vs t := by rw [List.take_of_length_le (Nat.le_refl _)]; rfl
      rw [he]
      obtain ⟨z, hz⟩ : ∃ z, cntS vs t = z := ⟨_, rfl⟩
      rw [hz]
      have HZ := Lib.hid hz
      clear he hz hv
      go_wp2
      go_ret
      exact ⟨ret_intK (by rw [HZ.out]), hB⟩

def SnOsoundingD_any (vs : List (List Nt)) (t : Nat) (w : World) (i c : Value) (wr : World) : Prop := ∃ k : Nat, i = .int .i64 k ∧ k ≤ vs.length ∧ c = .int .i64 (cnL (vs.take k).flatten t : Nat) ∧ Below w.heap.size w wr
def SnIsoundingD_any (vs : List (List Nt)) (l : List Nt) (k t : Nat) (w : World) (i c : Value) (wr : World) : Prop := ∃ j : Nat, i = .int .i64 j ∧ j ≤ l.length ∧ c = .int .i64 ((cnL (vs.take k).flatten t + cnL (l.take j) t : Nat) : Int) ∧ Below w.heap.size w wr
set_option maxHeartbeats 8000000 in
theorem soundingD_any (vs : List (List Nt)) (o : Option Addr) (cap t : Nat) (hn : vs.length ≤ 1099511627776) (ht : tot vs ≤ 1099511627776) (w : World) (hv : VoicesAt w o vs) :
    Calls Try.prog 29 #[.slice o vs.length cap, .float .f64 t] w fun e w' => e = .returned (.int .i64 (cntS vs t : Nat)) ∧ Below w.heap.size w w' := by
  go_enter Try.func29, Try.ntmps29
  go_wp2
  go_loopw [12, 5] (SnOsoundingD_any vs t w) (fun i _ _ => vs.length - (intOf i).toNat)
  case atStart => exact ⟨0, rfl, by omega, rfl, Below.refl _ _⟩
  case round =>
    obtain ⟨k, rfl, hk, rfl, hB⟩ := hrel
    by_cases hlt : k < vs.length
    · obtain ⟨l, hl⟩ : ∃ l, vs[k]? = some l := ⟨_, List.getElem?_eq_getElem hlt⟩
      obtain ⟨g, off, ol, cp, rfl, hc0, hr0⟩ := hv k l hl
      have hc : wr.cell? ⟨g, off + k, none⟩ = some (.slice ol l.length cp) := by rw [hB.cell (p := ⟨g, off + k, none⟩) (lt_cell hc0)]; exact hc0
      have htk := tot_take hl
      have hle := tot_le vs (k + 1)
      have hfk := flat_take hl
      have hcl0 : cnL (vs.take k).flatten t ≤ tot (vs.take k) := by rw [← flat_len]; exact cnL_le _ _
      have hl63 : l.length ≤ 1099511627776 := by omega
      have hI : SnIsoundingD_any vs l k t w (.int .i64 0) (.int .i64 (cnL (vs.take k).flatten t : Nat)) wr := ⟨0, rfl, by omega, by simp [cnL], hB⟩
      have hcb : cnL (vs.take k).flatten t + l.length ≤ 1099511627776 := by omega
      have HV := Lib.hid (And.intro hr0 hfk)
      clear hv hl htk hle hr0 hc0 hB hfk hcl0
      go_wp2
      go_loopw [18, 5] (SnIsoundingD_any vs l k t w) (fun j _ _ => l.length - (intOf j).toNat)
      case atStart => exact hI
      case round =>
        clear hI
        obtain ⟨j, rfl, hj, rfl, hB⟩ := hrel
        by_cases hlj : j < l.length
        · obtain ⟨x, hx⟩ : ∃ x, l[j]? = some x := ⟨_, List.getElem?_eq_getElem hlj⟩
          obtain ⟨gl, ofl, rfl, hcl⟩ := (HV.out.1.below encN_len (by decide) hB) j x hx
          have q0 := hcl 0 (by decide)
          have q1 := hcl 1 (by decide)
          have q2 := hcl 2 (by decide)
          have q3 := hcl 3 (by decide)
          have q4 := hcl 4 (by decide)
          have q5 := hcl 5 (by decide)
          clear hcl
          have hone := cnL_one x t
          have hnx : cnL (l.take (j + 1)) t = cnL (l.take j) t + cnL [x] t := by rw [take_nextL hx, cnL_app]
          have hle := cnL_le (l.take j) t
          have hlt2 : (l.take j).length ≤ l.length := by simp; omega
          have hjl : (l.take j).length ≤ j := by simp; omega
          have cS := fun W => sounds_any x t W
          obtain ⟨b, hb⟩ : ∃ b, sndB x t = b := ⟨_, rfl⟩
          rw [hb] at hone
          obtain ⟨xl, xb, xw, xs, xa, xo⟩ := x
          obtain ⟨f1, hf1⟩ : ∃ o, (FloatKind.f64.format.order xa t == some .lt) = o := ⟨_, rfl⟩
          obtain ⟨f2, hf2⟩ : ∃ o, (FloatKind.f64.format.order xa t == some .eq) = o := ⟨_, rfl⟩
          obtain ⟨f3, hf3⟩ : ∃ o, gtA xa xo t = o := ⟨_, rfl⟩
          have hs : b = ((f1 || f2) && f3) := by rw [← hb, ← hf1, ← hf2, ← hf3]; rfl
          have hg : ∀ W, (FloatKind.f64.format.order (fres .add xa xo W) t == some .gt) = f3 := fun W => by rw [gtA_is, hf3]
          clear hb hf3
          simp only [encN, List.getElem?_cons_succ, List.getElem?_cons_zero, Nat.add_zero] at q0 q1 q2 q3 q4 q5
          simp only [encN] at cS
          obtain ⟨c1, hc1⟩ : ∃ c, cnL (vs.take k).flatten t = c := ⟨_, rfl⟩
          obtain ⟨c2, hc2⟩ : ∃ c, cnL (l.take j) t = c := ⟨_, rfl⟩
          rw [hc1] at hcb ⊢
          rw [hc2] at hle hnx ⊢
          have hcb2 : c1 + c2 + 1 ≤ 1099511627776 := by omega
          have hsz := hB.size
          have hB2 := hB.alloc hsz (.cells #[.int .i64 xl, .int .i64 xb, .int .i64 xw, .bool xs, .float .f64 xa, .float .f64 xo] 48)
          have HH := Lib.hid (And.intro hc1 (And.intro hnx (And.intro hone hB2)))
          clear hc1 hc2 hnx hone hx hlt2 hle hB hB2 hjl
          clear cS
          cases f1 <;> cases f2 <;> cases f3
          all_goals
            simp only [Bool.or_self, Bool.or_true, Bool.true_or, Bool.or_false, Bool.false_or, Bool.and_true, Bool.and_false, Bool.true_and, Bool.false_and, Bool.and_self] at hs
            subst hs
            go_wp2
            go_roundw
            case rel =>
              obtain ⟨hc1, hnx, hone, hB2⟩ := HH.out
              exact ⟨j + 1, by go_num, by omega, by rw [hc1, hnx, hone]; go_num, ⟨HH.out.2.2.2.os, HH.out.2.2.2.tape, HH.out.2.2.2.output, HH.out.2.2.2.size, HH.out.2.2.2.block⟩⟩
            case measure => simp [intOf]; omega
        · obtain rfl : j = l.length := by omega
          have hO : SnOsoundingD_any vs t w (.int .i64 (k + 1 : Nat)) (.int .i64 ((cnL (vs.take k).flatten t + cnL (l.take l.length) t : Nat) : Int)) wr := ⟨k + 1, rfl, by omega, by
            rw [HV.out.2, cnL_app, List.take_of_length_le (Nat.le_refl _)], hB⟩
          obtain ⟨z, hz⟩ : ∃ z, cnL (vs.take k).flatten t + cnL (l.take l.length) t = z := ⟨_, rfl⟩
          rw [hz] at hO ⊢
          have HO := Lib.hid hO
          clear hO hB hz
          go_wp2
          go_roundw
          case rel => exact HO.out
          case measure => simp [intOf]; omega
    · obtain rfl : k = vs.length := by omega
      have he : cnL (vs.take vs.length).flatten t = cntS vs t := by rw [List.take_of_length_le (Nat.le_refl _)]; rfl
      rw [he]
      obtain ⟨z, hz⟩ : ∃ z, cntS vs t = z := ⟨_, rfl⟩
      rw [hz]
      have HZ := Lib.hid hz
      clear he hz hv
      go_wp2
      go_ret
      exact ⟨ret_intK (by rw [HZ.out]), hB⟩

end Go.Proofs.Ytieaeicpmibjkaa
