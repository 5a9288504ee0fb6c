/- Stage 27: a number in figures, as the document writes it. -/
import Derived.Test.YtjccoiephdopkaaDoorFt
import Derived.Lib.ItoaNum
import Derived.Lib.ItoaLen
namespace Go.Proofs.YtjccoiephdopkaaDoor
set_option linter.unusedVariables false
set_option linter.unusedSimpArgs false
open Go Go.RowKit Go.Shelf
set_option maxRecDepth 100000

/-- The figures ahead of the last one. -/
def preD (v : Nat) : List UInt8 := if v < 10 then [] else Lib.decDigits (v / 10)
theorem decD_pre (v : Nat) : Lib.decDigits v = preD v ++ [UInt8.ofNat (48 + v % 10)] := by
  unfold preD
  by_cases h : v < 10
  · rw [if_pos h, Lib.decDigits_one h, Nat.mod_eq_of_lt h]; rfl
  · rw [if_neg h, Lib.decDigits, dif_neg h]
theorem preD_big {v : Nat} (h : ¬ v < 10) : preD v = preD (v / 10) ++ [UInt8.ofNat (48 + v / 10 % 10)] := by
  rw [← decD_pre]; unfold preD; rw [if_neg h]
/-- One byte, as a text. -/
theorem conv_one (X : World) (c : Nat) (hc : c < 256) :
    (convert 46 9 (.slice (some ⟨X.heap.size, 0, none⟩) 1 1)).run Tryd.prog (X.alloc (.cells #[.int .u8 (c : Int)] 5)) = .ok (.string ⟨#[UInt8.ofNat c]⟩) (X.alloc (.cells #[.int .u8 (c : Int)] 5)) := by
  have e : (UInt8.ofNat c).toNat = c := by rw [UInt8.toNat_ofNat']; exact Nat.mod_eq_of_lt hc
  refine run_convert_bytes_back (P := Tryd.prog) _ 46 9 5 ⟨X.heap.size, 0, none⟩ 1 [UInt8.ofNat c] Tryd.underlying46 Tryd.underlying5 Tryd.underlying9 (fun j hj => ?_)
  obtain rfl : j = 0 := by simpa using hj
  rw [Lib.add_plain, World.cell?_alloc_new]
  show some (Value.int .u8 (c : Int)) = some (Value.int .u8 ((UInt8.ofNat c).toNat : Int))
  rw [e]
set_option maxHeartbeats 2000000 in
theorem figures_any (n : Nat) (hn : n < 1099511627776) (w : World) :
    Calls Tryd.prog 59 #[.int .i64 n] w fun e w' => e = .returned (.string ⟨(Lib.decDigits n).toArray⟩) ∧ Below w.heap.size w w' := by
  obtain ⟨x, hx⟩ : ∃ x, n % 10 = x := ⟨_, rfl⟩
  have hx9 : x < 10 := by omega
  have hmI : (n : Int) % 10 = (x : Int) := by omega
  obtain ⟨c, hc⟩ : ∃ c, 48 + x = c := ⟨_, rfl⟩
  have hw : IntKind.u8.wrap (48 + (x : Int)) = (c : Int) := by rw [IntKind.wrap_u8]; omega
  have hcv := fun X => conv_one X c (by omega)
  go_enter Tryd.func59, Tryd.ntmps59
  go_wp2
  go_loopw [0, 3] (fun vn vs wr => ∃ (v : Nat) (L : List UInt8), vn = .int .i64 v ∧ vs = .string ⟨L.toArray⟩ ∧ Hid (Below w.heap.size w wr ∧ Lib.decDigits n = preD v ++ L ∧ v < 1099511627776)) (fun vn _ _ => (RowKit.intOf vn).toNat)
  case atStart => exact ⟨n, [UInt8.ofNat c], rfl, rfl, (Below.refl w.heap.size w).alloc (Nat.le_refl _) _, by rw [decD_pre, hx, hc], hn⟩
  case round =>
    obtain ⟨v, L, rfl, rfl, HR⟩ := hrel
    rename World => X
    have HN := Lib.hid hn
    clear hx hx9 hmI hw hcv hc
    have hv := HR.out.2.2
    have hLl : L.length ≤ 20 := by
      have h1 := congrArg List.length HR.out.2.1
      rw [List.length_append, Lib.decDigits_length] at h1
      have := Lib.nDigits_le20 n (by omega)
      omega
    by_cases h9 : 9 < v
    · have hvI : (9 : Int) < (v : Int) := by omega
      obtain ⟨u, hu⟩ : ∃ u, v / 10 = u := ⟨_, rfl⟩
      obtain ⟨y, hy⟩ : ∃ y, u % 10 = y := ⟨_, rfl⟩
      have hy9 : y < 10 := by omega
      have hu3 : u < 1099511627776 := by omega
      have huI : (v : Int) / 10 = (u : Int) := by omega
      have hyI : (u : Int) % 10 = (y : Int) := by omega
      obtain ⟨d, hd⟩ : ∃ d, 48 + y = d := ⟨_, rfl⟩
      have hw : IntKind.u8.wrap (48 + (y : Int)) = (d : Int) := by rw [IntKind.wrap_u8]; omega
      have hcv := fun X => conv_one X d (by omega)
      have HF := Lib.hid (And.intro hv (And.intro h9 (And.intro hu (And.intro hy hd))))
      clear h9 hu hy hd hn
      go_wp2
      go_roundw
      case rel =>
        obtain ⟨hv, h9, hu, hy, hd⟩ := HF.out
        refine ⟨u, UInt8.ofNat d :: L, rfl, congrArg Value.string (ByteArray.ext (by rw [ByteArray.data_append]; simp)), HR.out.1.alloc HR.out.1.size _, ?_, by omega⟩
        rw [HR.out.2.1, preD_big (by omega : ¬ v < 10), hu, hy, hd, List.append_assoc]
        rfl
      case measure =>
        obtain ⟨hv, h9, hu, hy, hd⟩ := HF.out
        simp [intOf]; omega
    · have hvI : ¬ (9 : Int) < (v : Int) := by omega
      have e : Lib.decDigits n = L := by rw [HR.out.2.1]; unfold preD; rw [if_pos (by omega)]; rfl
      have HF := Lib.hid e
      clear hv h9 e hn
      go_wp2
      go_ret
      exact ⟨by rw [HF.out]; rfl, HR.out.1⟩
end Go.Proofs.YtjccoiephdopkaaDoor
