/- Stage 16: the law SchemeFinds. -/
import Derived.Test.YtdcmkiggnmajgaaYo
import Derived.Test.YtdcmkiggnmajgaaYp
import Derived.Test.YtdcmkiggnmajgaaYq
import Derived.Test.YtdcmkiggnmajgaaYk
namespace Go.Proofs.Ytdcmkiggnmajgaa.Pr
set_option linter.unusedVariables false
open Go Go.RowKit Go.Shelf
theorem finds_law (s : Sc) (ks : List ByteArray) (ol os o : Option Addr) (cl cs c : Nat) (hn : s.L.length ≤ 9223372036854775807) (hm : s.S.length ≤ 9223372036854775807) (hks : ks.length ≤ 8796093021952) (w : World) (hr : RowAt w encR 2 ol s.L) (ht : RowAt w encI 1 os s.S) (hk : KeysIn w o c ks) :
    Calls Try.prog 7 #[.agg #[.slice ol s.L.length cl, .slice os s.S.length cs], .slice o ks.length c] w fun e w' => e = .returned (.bool true) ∧ Below w.heap.size w w' := by
  obtain ⟨hkr, hkf, _, hz⟩ := hk
  cases hmay : mayB s
  · exact findsN1 s ks ol os o cl cs c hn hm hks hz hkf hmay w hr ht hkr
  · by_cases hlen : ks.length = s.L.length
    · exact findsY s ks ol os o cl cs c hn hm hks hz hkf hmay hlen w hr ht hkr
    · exact findsN2 s ks ol os o cl cs c hn hm hks hz hkf hmay hlen w hr ht hkr
end Go.Proofs.Ytdcmkiggnmajgaa.Pr
