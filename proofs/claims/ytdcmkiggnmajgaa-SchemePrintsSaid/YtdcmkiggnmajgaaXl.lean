/- Stage 16: the law SchemePrints. -/
import Derived.Test.YtdcmkiggnmajgaaXj
import Derived.Test.YtdcmkiggnmajgaaXk
namespace Go.Proofs.Ytdcmkiggnmajgaa.Pr
set_option linter.unusedVariables false
open Go Go.RowKit Go.Shelf
theorem prints_law (s t : Sc) (ol os ol' os' : Option Addr) (cl cs cl' cs' : Nat) (hfl : NForm ol s.L.length cl) (hfs : NForm os s.S.length cs) (hn : s.L.length ≤ 9223372036854775807) (hm : s.S.length ≤ 9223372036854775807) (hn' : t.L.length ≤ 9223372036854775807) (hm' : t.S.length ≤ 9223372036854775807) (w : World) (hr : RowAt w encR 2 ol s.L) (ht : RowAt w encI 1 os s.S) (hr' : RowAt w encR 2 ol' t.L) (ht' : RowAt w encI 1 os' t.S) :
    Calls Try.prog 5 #[.agg #[.slice ol s.L.length cl, .slice os s.S.length cs], .agg #[.slice ol' t.L.length cl', .slice os' t.S.length cs']] w fun e w' => e = .returned (.bool true) ∧ Below w.heap.size w w' := by
  cases hmay : mayB s
  · exact prints_no s t ol os ol' os' cl cs cl' cs' hn hm hn' hm' hmay w hr ht hr' ht'
  · cases hmt : mayB t
    · exact prints_yesF s t ol os ol' os' cl cs cl' cs' hn hm hn' hm' hfl hfs hmay hmt w hr ht hr' ht'
    · exact prints_yesT s t ol os ol' os' cl cs cl' cs' hn hm hn' hm' hfl hfs hmay hmt w hr ht hr' ht'
end Go.Proofs.Ytdcmkiggnmajgaa.Pr
