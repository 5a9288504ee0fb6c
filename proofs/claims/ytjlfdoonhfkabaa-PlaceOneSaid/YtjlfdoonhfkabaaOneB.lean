/- PlaceOne: the law's call. -/
import Derived.Test.YtjlfdoonhfkabaaLawOne
import Derived.Test.YtjlfdoonhfkabaaOneL
namespace Go.Proofs.Ytjlfdoonhfkabaa
open Go Go.RowKit

theorem one_law (s : ByteArray) (w : World) : Calls Try.prog 7 #[.string s] w fun e w' => e = .returned (.bool true) ∧ Below w.heap.size w w' := by
  rcases Nat.lt_or_ge 65536 s.size with h | h
  · exact one_long s h w
  · exact callsIn_wide.1 (one_short s h w)
end Go.Proofs.Ytjlfdoonhfkabaa
