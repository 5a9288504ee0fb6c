/- RunesStrings: the law's call, at every list of runes. -/
import Derived.Test.YtaogmmhkpknkmaaTxt
import Derived.Test.YtaogmmhkpknkmaaWk
import Derived.Deep.RegionHeld3
import Derived.Test.YtaogmmhkpknkmaaLawForms
namespace Go.Proofs.Ytaogmmhkpknkmaa
set_option linter.unusedVariables false
set_option linter.unusedSimpArgs false
open Go Go.RowKit
set_option maxRecDepth 100000

def StKp (zs : List Int) (w : World) (b0 : Nat) (tv : Value) (n : Nat) (X : World) : Prop := X.ownsRow b0 21 1 tv n (zs.map fun r => Value.int .i32 (rr r)) ∧ Below w.heap.size w X
def StRel (zs : List Int) (w : World) (b0 : Nat) (tv : Value) (n : Nat) (i : Value) (wr : World) : Prop := ∃ k : Nat, i = .int .i64 k ∧ k ≤ n ∧ StKp zs w b0 tv n wr

theorem st_keep {zs : List Int} {w X Y : World} {b0 b i n : Nat} {tv v : Value} (h1 : X.cell? ⟨b, i, none⟩ = some v) (h2 : StKp zs w b0 tv n X) (hb : Below X.heap.size X Y) : Y.cell? ⟨b, i, none⟩ = some v ∧ StKp zs w b0 tv n Y :=
  ⟨(hb.cell (p := ⟨b, i, none⟩) (lt_cell h1)).trans h1, own_below h2.1 hb, h2.2.trans (hb.mono h2.2.size)⟩

set_option maxHeartbeats 4000000 in
theorem strings_any (o : Option Addr) (n cap : Nat) (zs : List Int) (hn : zs.length = n) (hs : n ≤ 35184372087808) (w : World) (hrow : RowI w o zs) :
    Calls Try.prog 4 #[.slice o n cap] w fun e w' => e = .returned (.bool true) ∧ Below w.heap.size w w' := by
  have hsz : (encA zs).size ≤ 140737488351232 := by have := encA_size zs; omega
  obtain ⟨t1, t2, t3⟩ := text_of zs
  have cTo := to_big (encA zs) (by rw [t3]; omega)
  have cRt := right_any (encA zs) (by omega)
  rw [t2] at cRt
  have HN := Lib.hid hn
  have HR := Lib.hid hrow
  have T1 := Lib.hid t1
  have T3 := Lib.hid t3
  clear hn hrow t1 t2 t3
  go_enter Try.func4, Try.ntmps4
  go_wp2_with (first | (go_at_call 5; refine (wakes_any _).mono ?_; rintro e w1 ⟨rfl, hb1⟩; have hcv1 := conv_runes (cap := cap) HN.out (rowI_kept HR.out hb1)))
  go_region_held3 (fun w' => (convert 22 9 (.slice o n cap)).run Try.prog w' = .ok (.string (encA zs)) w') (first | exact conv_runes HN.out (rowI_kept HR.out (hb1.drew.trans (hb2.mono hb1.size))) | exact conv_runes HN.out (rowI_kept HR.out hb1.drew)) (first | (go_at_call 6; refine (of_any _ n _ zs HN.out hs _ (rowI_kept HR.out hb1.drew)).mono ?_; rintro e w2 ⟨rfl, hb2⟩))
  have hB2 : Below w.heap.size w w2 := hb1.drew.trans (hb2.mono hb1.size)
  have hcv2 := conv_runes (cap := cap) HN.out (rowI_kept HR.out hB2)
  go_wp2_with (first | (go_at_call 12; refine (cTo _).mono ?_; rintro e w3 ⟨tv, rfl, hown3, hb3⟩; rw [T1.out, T3.out, HN.out] at hown3; obtain ⟨o3, c3, rfl, ho3⟩ := own_slice hown3))
  have hB3 : Below w.heap.size w w3 := hB2.trans (hb3.mono hB2.size)
  obtain ⟨b0, hb0⟩ : ∃ b0, w2.heap.size = b0 := ⟨_, rfl⟩
  rw [hb0] at hown3
  clear hcv1 hcv2 hb1 hb2 hb3 hB2 hb0
  go_loopw [17] (fun i wr => StRel zs w b0 (.slice o3 n c3) n i wr) (fun i _ => n - (intOf i).toNat)
  case atStart => exact ⟨0, rfl, by omega, hown3, hB3⟩
  case round =>
    clear hown3 hB3
    obtain ⟨k, rfl, hk, hkp⟩ := hrel
    by_cases hlt : k < n
    · obtain ⟨b, off, rfl, hcl⟩ := rowI_kept HR.out hkp.2 k (by rw [HN.out]; exact hlt)
      obtain ⟨g, rfl⟩ := ho3 (by omega)
      have hct := hkp.1.cellAt k (by omega)
      obtain ⟨z, hz⟩ : ∃ z, zs.getD k 0 = z := ⟨_, rfl⟩
      have hzk : (zs.map fun r => Value.int .i32 (rr r))[k]? = some (.int .i32 (rr z)) := by
        have h1 : k < zs.length := by rw [HN.out]; exact hlt
        rw [List.getElem?_map, List.getElem?_eq_getElem h1, Option.map_some]
        rw [List.getD_eq_getElem?_getD, List.getElem?_eq_getElem h1, Option.getD_some] at hz
        rw [hz]
      rw [hzk] at hct
      rw [hz] at hcl
      clear hzk hz
      have he := enc_rr z
      have cE := encP_any z
      have cW := width_any z
      have hcd : wr.drew.cell? ⟨b, off + k, none⟩ = some (.int .i32 z) := hcl
      have hkd : StKp zs w b0 (.slice (some ⟨g, 0, none⟩) n c3) n wr.drew := ⟨own_below hkp.1 (Below.refl _ _).drew, hkp.2.drew⟩
      cases hno : noR z with
      | true =>
        obtain ⟨w1', r1⟩ := wid_none z hno
        rw [r1] at he hct
        rw [w1'] at cW
        clear hno w1' r1
        go_wp2
        go_region_held3 (fun w' => w'.cell? ⟨b, off + k, none⟩ = some (.int .i32 z) ∧ StKp zs w b0 (.slice (some ⟨g, 0, none⟩) n c3) n w') (first | exact ⟨hcd, hkd⟩ | exact st_keep hcd hkd hb4 | exact st_keep (And.left (by assumption)) (And.right (by assumption)) hb4 | exact st_keep (by assumption) (by assumption) hb4) (first | (go_at_call 10; refine (cE _).mono ?_; rintro e w4 ⟨rfl, hb4⟩))
        have hS : w4.cell? ⟨b, off + k, none⟩ = some (.int .i32 z) ∧ StKp zs w b0 (.slice (some ⟨g, 0, none⟩) n c3) n w4 := by assumption
        obtain ⟨hS1, hS2⟩ := hS
        go_wp2_with (first | (go_at_call 8; refine (cW _).mono ?_; rintro e w5 ⟨rfl, rfl⟩))
        go_roundw
        case rel => exact ⟨k + 1, by go_num, by omega, hS2⟩
        case measure => simp [intOf]; omega
      | false =>
        obtain ⟨w1', r1, w0⟩ := wid_some z hno
        rw [r1] at hct
        have hne : ¬ Utf8.encode z = ByteArray.empty := by
          intro h0
          rw [h0] at w1'
          exact w0 w1'
        rw [w1'] at cW
        clear hno w1' r1 w0 he
        go_wp2
        go_region_held3 (fun w' => w'.cell? ⟨b, off + k, none⟩ = some (.int .i32 z) ∧ StKp zs w b0 (.slice (some ⟨g, 0, none⟩) n c3) n w') (first | exact ⟨hcd, hkd⟩ | exact st_keep hcd hkd hb4 | exact st_keep (And.left (by assumption)) (And.right (by assumption)) hb4 | exact st_keep (by assumption) (by assumption) hb4) (first | (go_at_call 10; refine (cE _).mono ?_; rintro e w4 ⟨rfl, hb4⟩))
        have hS : w4.cell? ⟨b, off + k, none⟩ = some (.int .i32 z) ∧ StKp zs w b0 (.slice (some ⟨g, 0, none⟩) n c3) n w4 := by assumption
        obtain ⟨hS1, hS2⟩ := hS
        go_wp2_with (first | (go_at_call 8; refine (cW _).mono ?_; rintro e w5 ⟨rfl, rfl⟩))
        go_roundw
        case rel => exact ⟨k + 1, by go_num, by omega, hS2⟩
        case measure => simp [intOf]; omega
    · have hB := hkp.2
      have hcv := conv_runes (cap := cap) HN.out (rowI_kept HR.out hB)
      clear hkp
      go_wp2_with (first | (go_at_call 13; refine (cRt _).mono ?_; rintro e w7 ⟨rfl, hb7⟩; have hB7 : Below w.heap.size w w7 := hB.trans (hb7.mono hB.size)) | (go_at_call 6; refine (of_any _ n _ zs HN.out hs _ (rowI_kept HR.out hB7)).mono ?_; rintro e w8 ⟨rfl, hb8⟩; have hB8 : Below w.heap.size w w8 := hB7.trans (hb8.mono hB7.size)) | (go_at_call 12; refine (cTo _).mono ?_; rintro e w9 ⟨tv, rfl, hown9, hb9⟩; rw [T3.out, HN.out] at hown9; obtain ⟨o9, c9, rfl, ho9⟩ := own_slice hown9; have hB9 : Below w.heap.size w w9 := hB8.trans (hb9.mono hB8.size)) | (go_at_call 5; refine (wakes_any _).mono ?_; rintro e w10 ⟨rfl, hb10⟩))
      go_ret
      exact ⟨rfl, hB9.trans (hb10.mono hB9.size)⟩
end Go.Proofs.Ytaogmmhkpknkmaa
