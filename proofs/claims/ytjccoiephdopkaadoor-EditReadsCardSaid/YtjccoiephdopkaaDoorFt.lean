/- Stage 27: strconv.FormatInt to the base 16. -/
import Derived.Test.YtjccoiephdopkaaDoorHs
import Derived.Lib.Walk
import Derived.Lib.ItoaMem
import Derived.WalkKit
import Derived.BigCall
import Derived.BigGuard
namespace Go.Proofs.YtjccoiephdopkaaDoor
set_option linter.unusedVariables false
set_option linter.unusedSimpArgs false
open Go Go.RowKit Go.Shelf
set_option maxRecDepth 100000

theorem infoZ8 : (Tryd.prog.info? 5).map (fun i => (i.zero, i.size, i.bytes)) = some (some (.int .u8 0), 1, 1) := by kernel_rfl
/-- A digit to the base 16. -/
def hxD (n : Nat) : UInt8 := UInt8.ofNat (if n < 10 then 48 + n else 87 + n)
/-- A number to the base 16. -/
def hexL (n : Nat) : List UInt8 := if n < 16 then [hxD n] else hexL (n / 16) ++ [hxD (n % 16)]
termination_by n
decreasing_by omega
theorem hexL_small {n : Nat} (h : n < 16) : hexL n = [hxD n] := by rw [hexL, if_pos h]
theorem hexL_big {n : Nat} (h : ¬ n < 16) : hexL n = hexL (n / 16) ++ [hxD (n % 16)] := by rw [hexL, if_neg h]

theorem pow2_16 (w : World) : Calls Tryd.prog 103 #[.int .i64 16] w fun e w' => e = .returned (.bool true) ∧ w' = w := by
  go_enter Tryd.func103, Tryd.ntmps103
  go_wp2
  go_ret
  exact ⟨rfl, rfl⟩
theorem tz64_16 (w : World) (h : w.cell? ⟨2, 15, none⟩ = some (.int .u8 4)) : Calls Tryd.prog 106 #[.int .u64 16] w fun e w' => e = .returned (.int .i64 4) ∧ w' = w := by
  have hA : bits BinOp.and IntKind.u64 16 (IntKind.u64.wrap (-16)) = 16 := by decide +kernel
  have hW : IntKind.u64.wrap (16 * 285870213051353865) = 4573923408821661840 := by decide +kernel
  go_enter Tryd.func106, Tryd.ntmps106
  go_wp2
  go_ret
  exact ⟨rfl, rfl⟩
theorem tz_16 (w : World) (h : w.cell? ⟨2, 15, none⟩ = some (.int .u8 4)) : Calls Tryd.prog 104 #[.int .u64 16] w fun e w' => e = .returned (.int .i64 4) ∧ w' = w := by
  go_enter Tryd.func104, Tryd.ntmps104
  go_wp2_with (go_at_call 106; refine (tz64_16 _ h).mono ?_; rintro e w1 ⟨rfl, rfl⟩)
  go_ret
  exact ⟨rfl, rfl⟩
/-- Behind: formatBits. -/
theorem and_15 (v : Nat) (hv : v < 9223372036854775808) : bits BinOp.and IntKind.u64 (v : Int) 15 = ((v % 16 : Nat) : Int) := by
  have h := bits_mask .u64 63 (by decide) (fun n h0 h1 => by rw [IntKind.wrap_u64]; omega) 4 (by decide) (v : Int) (by omega) (by omega)
  have e : ((2 : Int) ^ 4 - 1) = 15 := by decide
  have e2 : ((2 : Int) ^ 4) = 16 := by decide
  rw [e, e2] at h
  rw [h]
  omega
def dg36 : ByteArray := ⟨#[48, 49, 50, 51, 52, 53, 54, 55, 56, 57, 97, 98, 99, 100, 101, 102, 103, 104, 105, 106, 107, 108, 109, 110, 111, 112, 113, 114, 115, 116, 117, 118, 119, 120, 121, 122]⟩
theorem dg_all : ∀ k : Fin 16, dg36[k.1]'(by have := k.2; rw [show dg36.size = 36 from rfl]; omega) = hxD k.1 := by decide +kernel
theorem dg_at (i : Nat) (h : i < dg36.size) (hi : i < 16) : dg36[i] = hxD i := dg_all ⟨i, hi⟩
theorem idx_dg (k : IntKind) (z : Int) (i : Nat) (hz : z = (i : Int)) (hi : i < 16) (w : World) :
    (Instr.index 9 (.string dg36) (.int k z)).run Tryd.prog w = .ok (.int .u8 ((hxD i).toNat : Int)) w := by
  subst hz
  have hs : dg36.size = 36 := rfl
  rw [run_index_string w 9 dg36 k _ Tryd.underlying9, dif_pos ⟨by omega, by rw [hs]; omega⟩]
  have e : ((i : Int)).toNat = i := by omega
  simp only [e]
  rw [dg_at i (by rw [hs]; omega) hi]

/-- What the loop has: the digits from the back, in the block. -/
def FtB (w : World) (B : Nat) (L : List UInt8) (X : World) : Prop :=
  (∃ cs : Array Value, X.heap[B]? = some (.cells cs 161 (0, 0)) ∧ cs.size = 65 ∧ ∀ j (h : j < L.length), cs[65 - L.length + j]? = some (.int .u8 (L[j].toNat : Int))) ∧
  Below w.heap.size w X ∧ w.heap.size ≤ B
def FtR (w : World) (B n v : Nat) (L : List UInt8) (X : World) : Prop := FtB w B L X ∧ hexL n = hexL v ++ L ∧ ∃ k, v < 16 ^ k ∧ L.length + k ≤ 10
theorem FtB.cell {w X : World} {B : Nat} {L : List UInt8} (h : FtB w B L X) (o : Nat) (ho : o < 65) : ∃ u, X.cell? ⟨B, o, none⟩ = some u ∧ X.frozen? ⟨B, o, none⟩ = false := by
  obtain ⟨⟨cs, h1, h2, _⟩, _⟩ := h
  refine ⟨cs[o], ?_, ?_⟩
  · simp only [World.cell?, h1]
    show cs[o]? = _
    rw [Array.getElem?_eq_getElem (by omega)]
  · simp [World.frozen?, h1]
theorem FtB.put {w X : World} {B : Nat} {L : List UInt8} (h : FtB w B L X) (d : UInt8) (m : Nat) (hm : 65 - L.length = m + 1) :
    FtB w B (d :: L) (X.setCell ⟨B, m, none⟩ (.int .u8 (d.toNat : Int))) := by
  obtain ⟨⟨cs, h1, h2, h3⟩, h4, h5⟩ := h
  refine ⟨⟨_, Blk.set (t := 161) h1 _ _, by rw [Array.size_setIfInBounds]; exact h2, fun j hj => ?_⟩, h4.setCell h5 _, h5⟩
  rw [List.length_cons] at hj ⊢
  rw [Array.getElem?_setIfInBounds]
  cases j with
  | zero =>
    rw [if_pos (by omega), if_pos (by omega)]
    rfl
  | succ j =>
    rw [if_neg (by omega)]
    have := h3 j (by omega)
    rw [List.getElem_cons_succ, ← this]
    congr 1
    omega
theorem FtB.conv {w X : World} {B : Nat} {L : List UInt8} (h : FtB w B L X) (m n : Nat) (hm : 65 - L.length = m) (hn : L.length = n) (cap : Nat) :
    (convert 46 9 (.slice (some ⟨B, m, none⟩) n cap)).run Tryd.prog X = .ok (.string ⟨L.toArray⟩) X := by
  subst hm hn
  obtain ⟨⟨cs, h1, h2, h3⟩, _⟩ := h
  refine run_convert_bytes_back (P := Tryd.prog) X 46 9 5 ⟨B, 65 - L.length, none⟩ cap L Tryd.underlying46 Tryd.underlying5 Tryd.underlying9 (fun j hj => ?_)
  rw [Lib.add_plain]
  simp only [World.cell?, h1]
  exact h3 j hj
theorem FtR.start {w : World} {n k : Nat} (hk : n < 16 ^ k) (hk2 : k ≤ 10) (cs : Array Value) (hs : cs.size = 65) : FtR w w.heap.size n n [] (w.alloc (.cells cs 161)) :=
  ⟨⟨⟨cs, World.alloc_heap_new w _, hs, fun j hj => by cases hj⟩, (Below.refl w.heap.size w).alloc (Nat.le_refl _) _, Nat.le_refl _⟩, by simp, k, hk, by simpa using hk2⟩

set_option maxHeartbeats 4000000 in
theorem fmtBits_16 (n : Nat) (hn : n < 16 ^ 8) (w : World) (h : w.cell? ⟨2, 15, none⟩ = some (.int .u8 4)) :
    Calls Tryd.prog 97 #[.slice none 0 0, .int .u64 n, .int .i64 16, .bool false, .bool false] w fun e w' => e = .returned (.tuple #[.slice none 0 0, .string ⟨(hexL n).toArray⟩]) ∧ Below w.heap.size w w' := by
  have e8 : (16 : Nat) ^ 8 = 4294967296 := by decide
  have h2 : ∀ o, (w.alloc o).cell? ⟨2, 15, none⟩ = some (.int .u8 4) := fun o => by rw [World.cell?_alloc_some _ _ _ (by rw [h]; rfl)]; exact h
  have hnI : (n : Int) < 4294967296 := by omega
  have ed : (⟨#[48, 49, 50, 51, 52, 53, 54, 55, 56, 57, 97, 98, 99, 100, 101, 102, 103, 104, 105, 106, 107, 108, 109, 110, 111, 112, 113, 114, 115, 116, 117, 118, 119, 120, 121, 122]⟩ : ByteArray) = dg36 := rfl
  go_enter Tryd.func97, Tryd.ntmps97
  rw [ed]
  go_wp2_with (first
    | (go_at_call 103; refine (pow2_16 _).mono ?_; rintro e w1 ⟨rfl, rfl⟩)
    | (go_at_call 104; refine (tz_16 _ (h2 _)).mono ?_; rintro e w1 ⟨rfl, rfl⟩))
  go_loopw [1, 13] (fun vu vi wr => ∃ (v : Nat) (L : List UInt8), vu = .int .u64 v ∧ vi = .int .i64 ((65 - L.length : Nat) : Int) ∧ Hid (FtR w w.heap.size n v L wr)) (fun vu _ _ => (RowKit.intOf vu).toNat)
  case atStart => exact ⟨n, [], rfl, rfl, FtR.start hn (by omega) _ rfl⟩
  case round =>
    obtain ⟨v, L, rfl, rfl, HR⟩ := hrel
    rename World => X
    obtain ⟨k, hk1, hk2⟩ := HR.out.2.2
    have hp := Nat.pow_le_pow_right (show 0 < 16 by decide) (show k ≤ 10 by omega)
    have e10 : (16 : Nat) ^ 10 = 1099511627776 := by decide
    have hL10 : L.length ≤ 10 := by omega
    by_cases hv : 16 ≤ v
    · have hk3 : 2 ≤ k := by
        rcases k with _ | _ | k
        · simp at hk1; omega
        · simp at hk1; omega
        · omega
      obtain ⟨m, hm⟩ : ∃ m, 65 - L.length = m + 1 := ⟨65 - L.length - 1, by omega⟩
      have hm65 : m < 65 := by omega
      obtain ⟨u, c1, f1⟩ := HR.out.1.cell m hm65
      have hvI : (16 : Int) ≤ (v : Int) := by omega
      have hand := and_15 v (by omega)
      obtain ⟨x, hx⟩ : ∃ x, v % 16 = x := ⟨_, rfl⟩
      rw [hx] at hand
      have hix := fun w => idx_dg .u64 (x : Int) x rfl (by omega) w
      have hmI : (m : Int) < 65 := by omega
      rw [hm]
      have HF := Lib.hid (And.intro hk1 (And.intro hk2 (And.intro hk3 (And.intro hm (And.intro hL10 (And.intro hn (And.intro hv hx)))))))
      clear hk1 hk2 hk3 hm hL10 hp e10 hn e8 hnI ed h2 h hv hx
      go_wp2
      go_roundw
      case rel =>
        obtain ⟨hk1, hk2, hk3, hm, hL10, hn, hv, hx⟩ := HF.out
        refine ⟨v / 16, hxD x :: L, by go_num, by rw [List.length_cons]; go_num, HR.out.1.put (hxD x) m hm, ?_, k - 1, ?_, ?_⟩
        · rw [HR.out.2.1, hexL_big (by omega : ¬ v < 16), hx, List.append_assoc]
          rfl
        · have e := Nat.pow_succ (n := 16) (m := k - 1)
          have e0 : k - 1 + 1 = k := by omega
          rw [Nat.succ_eq_add_one, e0] at e
          exact Nat.div_lt_of_lt_mul (by omega)
        · rw [List.length_cons]; omega
      case measure => 
        obtain ⟨hk1, hk2, hk3, hm, hL10, hn, hv, hx⟩ := HF.out
        simp [intOf]; omega
    · obtain ⟨m, hm⟩ : ∃ m, 65 - L.length = m + 1 := ⟨65 - L.length - 1, by omega⟩
      have hm65 : m < 65 := by omega
      obtain ⟨u, c1, f1⟩ := HR.out.1.cell m hm65
      have hvI : ¬ (16 : Int) ≤ (v : Int) := by omega
      have hix := fun w => idx_dg .u64 (v : Int) v rfl (by omega) w
      have hcv := (HR.out.1.put (hxD v) m hm).conv m (65 - m) (by rw [List.length_cons]; omega) (by rw [List.length_cons]; omega)
      have hmI : (m : Int) < 65 := by omega
      have hmI2 : (m : Int) ≤ 65 := by omega
      have eN : hexL n = hxD v :: L := by rw [HR.out.2.1, hexL_small (by omega)]; rfl
      have HF := Lib.hid (And.intro eN (HR.out.1.put (hxD v) m hm).2.1)
      rw [hm]
      clear hk1 hk2 hm hL10 hp e10 hn e8 hnI ed h2 h hv eN HR
      go_wp2
      refine bodyPost_ret (results_tmp2 rfl _ _ _) rfl ?_
      exact ⟨by rw [HF.out.1]; rfl, HF.out.2⟩

theorem fmt_16 (n : Nat) (hn : n < 16 ^ 8) (w : World) (h : w.cell? ⟨2, 15, none⟩ = some (.int .u8 4)) :
    Calls Tryd.prog 78 #[.int .i64 n, .int .i64 16] w fun e w' => e = .returned (.string ⟨(hexL n).toArray⟩) ∧ Below w.heap.size w w' := by
  have e8 : (16 : Nat) ^ 8 = 4294967296 := by decide
  have hnI : (n : Int) < 4294967296 := by omega
  have hn0 : ¬ (n : Int) < 0 := by omega
  have cF : ∀ w : World, w.cell? ⟨2, 15, none⟩ = some (.int .u8 4) → Calls Tryd.prog 85 #[.int .i64 n, .int .i64 16] w fun e w' => e = .returned (.string ⟨(hexL n).toArray⟩) ∧ Below w.heap.size w w' := fun w h => by
    have cB := fmtBits_16 n hn w h
    clear h hn e8
    go_enter Tryd.func85, Tryd.ntmps85
    go_wp2_with (go_at_call 97; refine cB.mono ?_; rintro e w1 ⟨rfl, hb⟩)
    go_ret
    exact ⟨rfl, hb⟩
  have cG := cF w h
  clear cF h hn e8
  go_enter Tryd.func78, Tryd.ntmps78
  go_wp2_with (go_at_call 85; refine cG.mono ?_; rintro e w1 ⟨rfl, hb⟩)
  go_ret
  exact ⟨rfl, hb⟩
end Go.Proofs.YtjccoiephdopkaaDoor
