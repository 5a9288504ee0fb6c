/- Stage 16: the law SchemeLattice. -/
import Derived.Test.YtdcmkiggnmajgaaZk
namespace Go.Proofs.Ytdcmkiggnmajgaa.Pr
set_option linter.unusedVariables false
open Go Go.RowKit Go.Shelf
theorem lattice_law (s t u : Sc) (ol os ol' os' ol'' os'' : Option Addr) (cl cs cl' cs' cl'' cs'' : Nat) (hn : s.L.length ≤ 9223372036854775807) (hm : s.S.length ≤ 9223372036854775807) (hn' : t.L.length ≤ 9223372036854775807) (hm' : t.S.length ≤ 9223372036854775807) (hn'' : u.L.length ≤ 9223372036854775807) (hm'' : u.S.length ≤ 9223372036854775807) (hfl : NForm ol s.L.length cl) (hfs : NForm os s.S.length cs) (w : World) (hr : RowAt w encR 2 ol s.L) (ht : RowAt w encI 1 os s.S) (hr' : RowAt w encR 2 ol' t.L) (ht' : RowAt w encI 1 os' t.S) (hr'' : RowAt w encR 2 ol'' u.L) (ht'' : RowAt w encI 1 os'' u.S) :
    Calls Try.prog 12 #[.agg #[.slice ol s.L.length cl, .slice os s.S.length cs], .agg #[.slice ol' t.L.length cl', .slice os' t.S.length cs'], .agg #[.slice ol'' u.L.length cl'', .slice os'' u.S.length cs'']] w fun e w' => e = .returned (.bool true) ∧ Below w.heap.size w w' := by
  cases hb : bothB s t
  · exact lat_no s t u ol os ol' os' ol'' os'' cl cs cl' cs' cl'' cs'' hn hm hn' hm' hn'' hm'' hfl hfs hb w hr ht hr' ht' hr'' ht''
  · unfold bothB at hb
    rw [Bool.and_eq_true, Bool.and_eq_true, decide_eq_true_iff] at hb
    cases hu : (mayB u && decide (s.L.length = u.L.length))
    · exact lat_un s t u ol os ol' os' ol'' os'' cl cs cl' cs' cl'' cs'' hn hm hn' hm' hn'' hm'' hfl hfs hb.1.1 hb.1.2 hb.2.symm hu w hr ht hr' ht' hr'' ht''
    · rw [Bool.and_eq_true, decide_eq_true_iff] at hu
      exact lat_ok s t u ol os ol' os' ol'' os'' cl cs cl' cs' cl'' cs'' hn hm hn' hm' hn'' hm'' hfl hfs hb.1.1 hb.1.2 hb.2.symm hu.1 hu.2.symm w hr ht hr' ht' hr'' ht''
end Go.Proofs.Ytdcmkiggnmajgaa.Pr
