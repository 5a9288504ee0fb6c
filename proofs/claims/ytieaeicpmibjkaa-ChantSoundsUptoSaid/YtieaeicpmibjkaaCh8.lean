/- Stage 31: the document's Most. -/
import Derived.Test.YtieaeicpmibjkaaCh7
namespace Go.Proofs.Ytieaeicpmibjkaa
set_option linter.unusedVariables false
set_option linter.unusedSimpArgs false
open Go Go.RowKit Go.Shelf
set_option maxRecDepth 100000

def mxF (f : Nt → Nat) (l : List Nt) : Nat := l.foldl (fun m x => max m (f x)) 0
theorem mxF_snoc (f : Nt → Nat) (l : List Nt) (x : Nt) : mxF f (l ++ [x]) = max (mxF f l) (f x) := by simp [mxF]
def mostV (vs : List (List Nt)) : Nat := mxF (fun x => cntS vs x.at') vs.flatten
theorem mxF_le (f : Nt → Nat) (l : List Nt) (b : Nat) (h : ∀ x ∈ l, f x ≤ b) : mxF f l ≤ b := by
  unfold mxF
  have : ∀ (l : List Nt) (a : Nat), a ≤ b → (∀ x ∈ l, f x ≤ b) → l.foldl (fun m x => max m (f x)) a ≤ b := by
    intro l
    induction l with
    | nil => intro a ha _; exact ha
    | cons y l ih => intro a ha h; exact ih _ (Nat.max_le.2 ⟨ha, h y List.mem_cons_self⟩) fun x hx => h x (List.mem_cons_of_mem _ hx)
  exact this l 0 (Nat.zero_le _) h
theorem cntS_le (vs : List (List Nt)) (t : Nat) : cntS vs t ≤ tot vs := by rw [← flat_len]; exact cnL_le _ _

def MdO (vs : List (List Nt)) (w : World) (i c : Value) (wr : World) : Prop := ∃ k : Nat, i = .int .i64 k ∧ k ≤ vs.length ∧ c = .int .i64 (mxF (fun x => cntS vs x.at') (vs.take k).flatten : Nat) ∧ Below w.heap.size w wr
def MdI (vs : List (List Nt)) (l : List Nt) (k : Nat) (w : World) (i c : Value) (wr : World) : Prop := ∃ j : Nat, i = .int .i64 j ∧ j ≤ l.length ∧ c = .int .i64 (mxF (fun x => cntS vs x.at') ((vs.take k).flatten ++ l.take j) : Nat) ∧ Below w.heap.size w wr
set_option maxHeartbeats 8000000 in
theorem mostD_any (vs : List (List Nt)) (o : Option Addr) (cap : Nat) (hn : vs.length ≤ 1099511627776) (ht : tot vs ≤ 1099511627776) (w : World) (hv : VoicesAt w o vs) :
    Calls Try.prog 31 #[.slice o vs.length cap] w fun e w' => e = .returned (.int .i64 (mostV vs : Nat)) ∧ Below w.heap.size w w' := by
  have cS := fun t W h => soundingD_any vs o cap t hn ht W h
  obtain ⟨n, hnn⟩ : ∃ n, vs.length = n := ⟨_, rfl⟩
  rw [hnn] at cS
  rw [hnn]
  have hnb : n ≤ 1099511627776 := hnn ▸ hn
  have HN := Lib.hid hnn
  clear hnn
  go_enter Try.func31, Try.ntmps31
  go_wp2
  go_loopw [10, 3] (MdO vs w) (fun i _ _ => n - (intOf i).toNat)
  case atStart => exact ⟨0, rfl, by omega, rfl, Below.refl _ _⟩
  case round =>
    obtain ⟨k, rfl, hk, rfl, hB⟩ := hrel
    rw [HN.out] at hk
    by_cases hlt : k < n
    · obtain ⟨l, hl⟩ : ∃ l, vs[k]? = some l := ⟨_, List.getElem?_eq_getElem (by rw [HN.out]; exact hlt)⟩
      obtain ⟨g, off, ol, cp, ho, hc0, hr0⟩ := hv k l hl
      have hc : wr.cell? ⟨g, off + k, none⟩ = some (.slice ol l.length cp) := by rw [hB.cell (p := ⟨g, off + k, none⟩) (lt_cell hc0)]; exact hc0
      have htk := tot_take hl
      have hle := tot_le vs (k + 1)
      have hfk := flat_take hl
      have hl63 : l.length ≤ 1099511627776 := by omega
      have hI : MdI vs l k w (.int .i64 0) (.int .i64 (mxF (fun x => cntS vs x.at') (vs.take k).flatten : Nat)) wr := ⟨0, rfl, by omega, by simp, hB⟩
      have HV := Lib.hid (And.intro hr0 (And.intro hfk hv))
      subst ho
      clear hv hl htk hle hr0 hc0 hB hfk
      go_wp2
      go_loopw [16, 3] (MdI vs l k w) (fun j _ _ => l.length - (intOf j).toNat)
      case atStart => exact hI
      case round =>
        clear hI
        obtain ⟨j, rfl, hj, rfl, hB⟩ := hrel
        by_cases hlj : j < l.length
        · obtain ⟨x, hx⟩ : ∃ x, l[j]? = some x := ⟨_, List.getElem?_eq_getElem hlj⟩
          obtain ⟨gl, ofl, rfl, hcl⟩ := (HV.out.1.below encN_len (by decide) hB) j x hx
          have q0 := hcl 0 (by decide)
          have q1 := hcl 1 (by decide)
          have q2 := hcl 2 (by decide)
          have q3 := hcl 3 (by decide)
          have q4 := hcl 4 (by decide)
          have q5 := hcl 5 (by decide)
          clear hcl
          have hnx : mxF (fun x => cntS vs x.at') ((vs.take k).flatten ++ l.take (j + 1)) = max (mxF (fun x => cntS vs x.at') ((vs.take k).flatten ++ l.take j)) (cntS vs x.at') := by
            rw [take_nextL hx, ← List.append_assoc, mxF_snoc]
          obtain ⟨xl, xb, xw, xs, xa, xo⟩ := x
          simp only [encN, List.getElem?_cons_succ, List.getElem?_cons_zero, Nat.add_zero] at q0 q1 q2 q3 q4 q5
          obtain ⟨c1, hc1⟩ : ∃ c, mxF (fun x => cntS vs x.at') ((vs.take k).flatten ++ l.take j) = c := ⟨_, rfl⟩
          have hB2 := hB.alloc hB.size (.cells #[.int .i64 xl, .int .i64 xb, .int .i64 xw, .bool xs, .float .f64 xa, .float .f64 xo] 48)
          have cX := fun W h => cS xa W h
          obtain ⟨c2, hc2⟩ : ∃ c, cntS vs xa = c := ⟨_, rfl⟩
          rw [hc2] at cX
          rw [hc1] at hnx ⊢
          rw [hc2] at hnx
          have hmax : max (c1 : Int) (c2 : Int) = ((max c1 c2 : Nat) : Int) := by omega
          have HH := Lib.hid (And.intro hnx (And.intro hB2 hB2.size))
          clear hc1 hc2 hnx hx hB hB2
          go_wp2_with (fail)
          refine (cX _ (HV.out.2.2.below HH.out.2.1)).mono ?_
          rintro e w4 ⟨rfl, hb4⟩
          have hB4 := HH.out.2.1.trans (hb4.mono HH.out.2.2)
          go_wp2
          go_roundw
          case rel => exact ⟨j + 1, by go_num, by omega, by rw [HH.out.1], hB4⟩
          case measure => simp [intOf]; omega
        · obtain rfl : j = l.length := by omega
          have hO : MdO vs w (.int .i64 (k + 1 : Nat)) (.int .i64 (mxF (fun x => cntS vs x.at') ((vs.take k).flatten ++ l.take l.length) : Nat)) wr := ⟨k + 1, rfl, by have := HN.out; omega, by
            rw [HV.out.2.1, List.take_of_length_le (Nat.le_refl _)], hB⟩
          obtain ⟨z, hz⟩ : ∃ z, mxF (fun x => cntS vs x.at') ((vs.take k).flatten ++ l.take l.length) = z := ⟨_, rfl⟩
          rw [hz] at hO ⊢
          have HO := Lib.hid hO
          clear hO hB hz
          go_wp2
          go_roundw
          case rel => exact HO.out
          case measure => simp [intOf]; omega
    · obtain rfl : k = n := by omega
      have he : mxF (fun x => cntS vs x.at') (vs.take k).flatten = mostV vs := by rw [List.take_of_length_le (by rw [HN.out]; omega)]; rfl
      rw [he]
      obtain ⟨z, hz⟩ : ∃ z, mostV vs = z := ⟨_, rfl⟩
      rw [hz]
      have HZ := Lib.hid hz
      clear he hz hv
      go_wp2
      go_ret
      exact ⟨ret_intK (by rw [HZ.out]), hB⟩
end Go.Proofs.Ytieaeicpmibjkaa
