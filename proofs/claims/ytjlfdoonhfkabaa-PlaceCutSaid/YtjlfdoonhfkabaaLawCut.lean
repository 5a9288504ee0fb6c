/- PlaceCut: the law's call. -/
import Derived.Test.YtjlfdoonhfkabaaCuta
import Derived.Test.YtjlfdoonhfkabaaCutb
import Derived.Test.YtjlfdoonhfkabaaCutc
import Derived.Test.YtjlfdoonhfkabaaCutd
import Derived.Test.YtjlfdoonhfkabaaCute
import Derived.Test.YtjlfdoonhfkabaaCutx
import Derived.Test.YtjlfdoonhfkabaaCutL
namespace Go.Proofs.Ytjlfdoonhfkabaa
open Go Go.RowKit

theorem cut_law (s : ByteArray) (k : Int) (w : World) : Calls Try.prog 11 #[.string s, .int .i64 k] w fun e w' => e = .returned (.bool true) ∧ Below w.heap.size w w' := by
  rcases Nat.lt_or_ge 65536 s.size with h | h
  · exact cut_long s h k w
  · by_cases hk : k < 0 ∨ (nP s : Int) < k
    · exact callsIn_wide.1 (cut_err s h k hk w)
    · obtain ⟨n, rfl⟩ : ∃ n : Nat, k = n := ⟨k.toNat, by omega⟩
      have hn : n ≤ nP s := by omega
      have hb := pK_le s n hn
      by_cases h1 : (pK s n).b = 0
      · exact callsIn_wide.1 (cut_a s h n hn h1 w)
      · by_cases h2 : (pK s n).b = s.size
        · exact callsIn_wide.1 (cut_b s h n hn ⟨by omega, h2⟩ w)
        · by_cases h3 : bt s ((pK s n).b - 1) = 13
          · by_cases h4 : bt s (pK s n).b = 10
            · exact callsIn_wide.1 (cut_e s h n hn ⟨by omega, by omega, h3, h4⟩ w)
            · exact callsIn_wide.1 (cut_d s h n hn ⟨by omega, by omega, h3, h4⟩ w)
          · exact callsIn_wide.1 (cut_c s h n hn ⟨by omega, by omega, h3⟩ w)
end Go.Proofs.Ytjlfdoonhfkabaa
