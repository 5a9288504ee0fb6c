/- Stage 16: does the layer do anything? -/
import Derived.Test.YtdcmkiggnmajgaaV3
import Derived.Test.YtdcmkiggnmajgaaV4
import Derived.Test.YtdcmkiggnmajgaaV6
namespace Go.Proofs.Ytdcmkiggnmajgaa
set_option linter.unusedVariables false
set_option linter.unusedSimpArgs false
open Go Go.RowKit Go.Shelf
set_option maxRecDepth 100000

/-- The text that all laws read first. -/
def tx : ByteArray := ⟨#[97, 98, 120, 32, 65, 49]⟩
def sx : Sc := ⟨[⟨0, 0⟩, ⟨1, 0⟩, ⟨-1, 0⟩, ⟨0, 1⟩], [3, 1]⟩
theorem read_tx : readR tx = (sx, 0, 0) := by kernel_rfl
theorem may_sx : mayB sx = true := by kernel_rfl
theorem print_sx : prB sx = tx := by kernel_rfl

theorem own_form {w : World} {b n cap sz : Nat} {e : TypeId} {o : Option Addr} {xs : List Value} (h : w.ownsRow b e sz (.slice o n cap) n xs) : NForm o n cap := by
  rcases h.2 with ⟨e1, e2⟩ | ⟨g, c, cur, e1, _, _, h1, h2, _⟩
  · cases e1
    exact .inl ⟨rfl, rfl, e2⟩
  · cases e1
    exact .inr ⟨_, rfl, h1, h2⟩

set_option maxHeartbeats 4000000 in
theorem wakes_any (w : World) : Calls Try.prog 13 #[] w fun e w' => e = .returned (.bool true) ∧ Below w.heap.size w w' := by
  have cR : ∀ W, Calls Try.prog 17 #[.string tx] W fun e w' => ∃ ol os cl cs, e = .returned (.tuple #[.agg #[.slice ol 4 cl, .slice os 2 cs], .agg #[.int .i64 0, .int .i64 0]]) ∧ w'.ownsRow W.heap.size 79 2 (.slice ol 4 cl) 4 (sx.L.flatMap encR) ∧ w'.ownsRow W.heap.size 3 1 (.slice os 2 cs) 2 (sx.S.flatMap encI) ∧ Below W.heap.size W w' := fun W => by
    have h := read_any tx (by decide) W
    rw [read_tx] at h
    refine h.mono ?_
    rintro e w1 ⟨vl, vs, rfl, hL, hS, hB⟩
    obtain ⟨ol, cl, rfl, _⟩ := own_slice hL
    obtain ⟨os, cs, rfl, _⟩ := own_slice hS
    exact ⟨ol, os, cl, cs, rfl, hL, hS, hB⟩
  have cP : ∀ (ol os : Option Addr) (cl cs : Nat), NForm ol 4 cl → ∀ W, RowAt W encR 2 ol sx.L → RowAt W encI 1 os sx.S → Calls Try.prog 18 #[.agg #[.slice ol 4 cl, .slice os 2 cs]] W fun e w' => e = .returned (.tuple #[.string tx, .int .i64 0]) ∧ Below W.heap.size W w' := fun ol os cl cs h W h1 h2 => by
    have := print_any sx ol os cl cs h may_sx W h1 h2
    rw [print_sx] at this
    exact this
  have cC := fun W => count_any 4 15 (by omega) (Lib.hid (by decide)) W
  go_enter Try.func13, Try.ntmps13
  go_wp2_with (fail)
  refine (cR _).mono ?_
  rintro e w1 ⟨ol, os, cl, cs, rfl, hL4, hS2, hB⟩
  have hf := own_form hL4
  have hr := RowAt.of_own encR_len hL4 rfl
  have ht := RowAt.of_own encI_len hS2 rfl
  have hB2 := ((Below.refl w1.heap.size w1).alloc (Nat.le_refl _) (.cells #[.slice ol 4 cl, .slice os 2 cs] 25)).alloc (by simp) (.cells #[.int .i64 0, .int .i64 0] 32)
  have b1 := Blk.new (w1.alloc (.cells #[.slice ol 4 cl, .slice os 2 cs] 25)) #[.int .i64 0, .int .i64 0] 32
  rw [World.size_alloc] at b1
  have hr2 := hr.below encR_len (by decide) hB2
  have ht2 := ht.below encI_len (by decide) hB2
  have HB := Lib.hid (And.intro (hB.trans (hB2.mono hB.size)) b1)
  clear hL4 hS2 hr ht hB hB2 b1 cR
  go_wp2_with (fail)
  refine (cP _ _ _ _ hf _ hr2 ht2).mono ?_
  rintro e w3 ⟨rfl, hB3⟩
  have HB3 := Lib.hid (HB.out.1.trans (hB3.mono HB.out.1.size))
  have b3 := HB.out.2.below' hB3
  have z0 : w3.cell? ⟨w1.heap.size + 1, 0, none⟩ = some (.int .i64 0) := b3.cell 0
  have z1 : w3.cell? ⟨w1.heap.size + 1, 1, none⟩ = some (.int .i64 0) := b3.cell 1
  have HZ := Lib.hid b3
  clear b3 hB3 hr2 ht2 hf
  go_wp2_with (fail)
  refine (cC _).mono ?_
  rintro e w4 ⟨rfl, hB4⟩
  have b4 := HZ.out.below' hB4
  have z0 : w4.cell? ⟨w1.heap.size + 1, 0, none⟩ = some (.int .i64 0) := b4.cell 0
  have z1 : w4.cell? ⟨w1.heap.size + 1, 1, none⟩ = some (.int .i64 0) := b4.cell 1
  have HB4 := Lib.hid (HB3.out.trans (hB4.mono HB3.out.size))
  clear b4 hB4
  have htx : tx.toList = [97, 98, 120, 32, 65, 49] := by kernel_rfl
  have htx2 : (tx.toList == [97, 98, 120, 32, 65, 49]) = true := by kernel_rfl
  go_wp2
  go_ret
  exact ⟨rfl, HB4.out⟩
end Go.Proofs.Ytdcmkiggnmajgaa
