/- Stage 16: the law SchemeMeets. -/
import Derived.Test.YtdcmkiggnmajgaaZg
import Derived.Test.YtdcmkiggnmajgaaZh
namespace Go.Proofs.Ytdcmkiggnmajgaa.Pr
set_option linter.unusedVariables false
open Go Go.RowKit Go.Shelf
theorem meets_law (s t : Sc) (ol os ol' os' : Option Addr) (cl cs cl' cs' : Nat) (hn : s.L.length ≤ 8796093021952) (hm : s.S.length ≤ 17592186043904) (hn' : t.L.length ≤ 8796093021952) (hm' : t.S.length ≤ 17592186043904) (hfl : NForm ol s.L.length cl) (hfs : NForm os s.S.length cs) (hfl' : NForm ol' t.L.length cl') (hfs' : NForm os' t.S.length cs') (w : World) (hr : RowAt w encR 2 ol s.L) (ht : RowAt w encI 1 os s.S) (hr' : RowAt w encR 2 ol' t.L) (ht' : RowAt w encI 1 os' t.S) :
    Calls Try.prog 8 #[.agg #[.slice ol s.L.length cl, .slice os s.S.length cs], .agg #[.slice ol' t.L.length cl', .slice os' t.S.length cs']] w fun e w' => e = .returned (.bool true) ∧ Below w.heap.size w w' := by
  cases hb : bothB s t
  · exact meets_no s t ol os ol' os' cl cs cl' cs' hn hm hn' hm' hfl hfs hfl' hfs' hb w hr ht hr' ht'
  · unfold bothB at hb
    rw [Bool.and_eq_true, Bool.and_eq_true, decide_eq_true_iff] at hb
    exact meets_yes s t ol os ol' os' cl cs cl' cs' hn hm hn' hm' hfl hfs hfl' hfs' hb.1.1 hb.1.2 hb.2.symm w hr ht hr' ht'
end Go.Proofs.Ytdcmkiggnmajgaa.Pr
