/- Stage 16: what Within refuses. -/
import Derived.Test.YtdcmkiggnmajgaaYs
namespace Go.Proofs.Ytdcmkiggnmajgaa
set_option linter.unusedVariables false
set_option linter.unusedSimpArgs false
open Go Go.RowKit Go.Shelf
set_option maxRecDepth 100000

set_option maxHeartbeats 4000000 in
theorem within_no (s t : Sc) (ol os ol' os' : Option Addr) (cl cs cl' cs' : Nat) (hn : s.L.length ≤ 9223372036854775807) (hm : s.S.length ≤ 9223372036854775807) (hn' : t.L.length ≤ 9223372036854775807) (hm' : t.S.length ≤ 9223372036854775807) (hno : bothB s t = false) (w : World) (hr : RowAt w encR 2 ol s.L) (ht : RowAt w encI 1 os s.S) (hr' : RowAt w encR 2 ol' t.L) (ht' : RowAt w encI 1 os' t.S) :
    Calls Try.prog 23 #[.agg #[.slice ol s.L.length cl, .slice os s.S.length cs], .agg #[.slice ol' t.L.length cl', .slice os' t.S.length cs']] w fun e w' => e = .returned (.tuple #[.bool false, .int .i64 2]) ∧ Below w.heap.size w w' := by
  have hB0 := ((Below.refl _ w).alloc (Nat.le_refl _) (.cells #[.slice ol s.L.length cl, .slice os s.S.length cs] 25)).alloc (by simp) (.cells #[.slice ol' t.L.length cl', .slice os' t.S.length cs'] 25)
  have cO := fun W a b c d => both_any s t ol os ol' os' cl cs cl' cs' hn hm hn' hm' W a b c d
  rw [hno] at cO
  simp only [Bool.false_eq_true, if_false] at cO
  have H := Lib.hid hB0
  have HR := Lib.hid (And.intro (And.intro hr ht) (And.intro hr' ht'))
  clear hB0 hr ht hr' ht' hno
  go_enter Try.func23, Try.ntmps23
  go_wp2_with (fail)
  refine (cO _ (HR.out.1.1.below encR_len (by decide) H.out) (HR.out.1.2.below encI_len (by decide) H.out) (HR.out.2.1.below encR_len (by decide) H.out) (HR.out.2.2.below encI_len (by decide) H.out)).mono ?_
  rintro e W1 ⟨rfl, hB⟩
  have HB := Lib.hid (H.out.trans (hB.mono H.out.size))
  clear hB
  go_wp2
  go_ret2
  exact ⟨rfl, HB.out⟩
end Go.Proofs.Ytdcmkiggnmajgaa
