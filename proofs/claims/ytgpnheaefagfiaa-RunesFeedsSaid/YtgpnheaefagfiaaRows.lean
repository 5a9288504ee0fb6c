/-
  No cell of these rows narrows 'for every input' (looked for: loops, veiled, ifaces, maps, wideKeys, modest, calm, conditions, laid).
  DERIVED. THE GIVEN ROWS OF THIS SEAT. 12 by the template 'for every input the law returns true; each argument reads behind the call as it read before'; 0 by the template 'total and deterministic' (their statements: YtgpnheaefagfiaaTotals.lean).
  GIVEN WITH THE SEED: the statements are not yours to turn. If you find one false, say at which input.
  Laid BY PROGRAM, IN A SANDBOX (cutbox-rows.mjs): the forced cells as the released guide's own fill.sh prints them over the translation f56baed2b53da2ce… (all of the seat's roots in one cut). By AI agents, Wed Nov 11 2026. No macro, syntax, notation, axiom, sorry.
-/
import Derived.Test.YtgpnheaefagfiaaChecked
import GoSem.Claim
import GoSem.ClaimJoined
import GoSem.ClaimMapViews
import Derived.JoinedTies
import Derived.KernelRfl
namespace Go.Proofs.Ytgpnheaefagfiaa
/- THE CELL 'sum', in the pinned program and in every row, IS THE sha256 OF THE DUMP (.gsa) THAT YtgpnheaefagfiaaProg.lean LOADS. Nothing in Lean hashes anything: it is a label: what it is worth is what the hold of that sum in a sandbox is worth. -/
noncomputable def Try.pinned : Pinned := { name := "ytgpnheaefagfiaa", sum := "f56baed2b53da2ce91ea6f86483f443daf58d2830ffcee8dc178b0252fd49ede", checked := Try.checked }
namespace Rows
def none {H : Type} : Left H := { results := [], args := [] }

/-- 'canticlelaw01.RunesAts': WHATEVER THE INPUT: true; the input reads as it did. -/
def runesAtsSpec : ChangeSpec := { name := "runesAts", fn := fun _ => fun
  | [d1, d2] => { results := [.lit (.bool true)], args := [d1, d2] }
  | _ => none }
def runesAtsRow : OpenClaim := { program := "ytgpnheaefagfiaa", sum := "f56baed2b53da2ce91ea6f86483f443daf58d2830ffcee8dc178b0252fd49ede", func := "canticle/canticlelaw01.RunesAts", spec := "runesAts", unfollowed := true, recurses := true, apart := false }
def RunesAtsSaid : Prop := runesAtsRow.holds Try.pinned (OpenSpec.ofChange runesAtsSpec)

/-- ITS FALSE NEIGHBOUR: 'it returns false'. Refute it at one input. -/
def runesAtsWrong : ChangeSpec := { name := "runesAts", fn := fun _ => fun
  | [d1, d2] => { results := [.lit (.bool false)], args := [d1, d2] }
  | _ => none }
def RunesAtsWrongFalsely : Prop := runesAtsRow.holds Try.pinned (OpenSpec.ofChange runesAtsWrong)

/-- 'canticlelaw01.RunesPieces': WHATEVER THE INPUT: true; the input reads as it did. -/
def runesPiecesSpec : ChangeSpec := { name := "runesPieces", fn := fun _ => fun
  | [d1, d2] => { results := [.lit (.bool true)], args := [d1, d2] }
  | _ => none }
def runesPiecesRow : OpenClaim := { program := "ytgpnheaefagfiaa", sum := "f56baed2b53da2ce91ea6f86483f443daf58d2830ffcee8dc178b0252fd49ede", func := "canticle/canticlelaw01.RunesPieces", spec := "runesPieces", unfollowed := true, recurses := true, apart := false }
def RunesPiecesSaid : Prop := runesPiecesRow.holds Try.pinned (OpenSpec.ofChange runesPiecesSpec)

/-- ITS FALSE NEIGHBOUR: 'it returns false'. Refute it at one input. -/
def runesPiecesWrong : ChangeSpec := { name := "runesPieces", fn := fun _ => fun
  | [d1, d2] => { results := [.lit (.bool false)], args := [d1, d2] }
  | _ => none }
def RunesPiecesWrongFalsely : Prop := runesPiecesRow.holds Try.pinned (OpenSpec.ofChange runesPiecesWrong)

/-- 'canticlelaw01.RunesCounts': WHATEVER THE INPUT: true; the input reads as it did. -/
def runesCountsSpec : ChangeSpec := { name := "runesCounts", fn := fun _ => fun
  | [d] => { results := [.lit (.bool true)], args := [d] }
  | _ => none }
def runesCountsRow : OpenClaim := { program := "ytgpnheaefagfiaa", sum := "f56baed2b53da2ce91ea6f86483f443daf58d2830ffcee8dc178b0252fd49ede", func := "canticle/canticlelaw01.RunesCounts", spec := "runesCounts", unfollowed := true, recurses := true, apart := false }
def RunesCountsSaid : Prop := runesCountsRow.holds Try.pinned (OpenSpec.ofChange runesCountsSpec)

/-- ITS FALSE NEIGHBOUR: 'it returns false'. Refute it at one input. -/
def runesCountsWrong : ChangeSpec := { name := "runesCounts", fn := fun _ => fun
  | [d] => { results := [.lit (.bool false)], args := [d] }
  | _ => none }
def RunesCountsWrongFalsely : Prop := runesCountsRow.holds Try.pinned (OpenSpec.ofChange runesCountsWrong)

/-- 'canticlelaw01.RunesBoundaries': WHATEVER THE INPUT: true; the input reads as it did. -/
def runesBoundariesSpec : ChangeSpec := { name := "runesBoundaries", fn := fun _ => fun
  | [d1, d2] => { results := [.lit (.bool true)], args := [d1, d2] }
  | _ => none }
def runesBoundariesRow : OpenClaim := { program := "ytgpnheaefagfiaa", sum := "f56baed2b53da2ce91ea6f86483f443daf58d2830ffcee8dc178b0252fd49ede", func := "canticle/canticlelaw01.RunesBoundaries", spec := "runesBoundaries", unfollowed := true, recurses := true, apart := false }
def RunesBoundariesSaid : Prop := runesBoundariesRow.holds Try.pinned (OpenSpec.ofChange runesBoundariesSpec)

/-- ITS FALSE NEIGHBOUR: 'it returns false'. Refute it at one input. -/
def runesBoundariesWrong : ChangeSpec := { name := "runesBoundaries", fn := fun _ => fun
  | [d1, d2] => { results := [.lit (.bool false)], args := [d1, d2] }
  | _ => none }
def RunesBoundariesWrongFalsely : Prop := runesBoundariesRow.holds Try.pinned (OpenSpec.ofChange runesBoundariesWrong)

/-- 'canticlelaw01.RunesForms': WHATEVER THE INPUT: true; the input reads as it did. -/
def runesFormsSpec : ChangeSpec := { name := "runesForms", fn := fun _ => fun
  | [d] => { results := [.lit (.bool true)], args := [d] }
  | _ => none }
def runesFormsRow : OpenClaim := { program := "ytgpnheaefagfiaa", sum := "f56baed2b53da2ce91ea6f86483f443daf58d2830ffcee8dc178b0252fd49ede", func := "canticle/canticlelaw01.RunesForms", spec := "runesForms", unfollowed := true, recurses := true, apart := false }
def RunesFormsSaid : Prop := runesFormsRow.holds Try.pinned (OpenSpec.ofChange runesFormsSpec)

/-- ITS FALSE NEIGHBOUR: 'it returns false'. Refute it at one input. -/
def runesFormsWrong : ChangeSpec := { name := "runesForms", fn := fun _ => fun
  | [d] => { results := [.lit (.bool false)], args := [d] }
  | _ => none }
def RunesFormsWrongFalsely : Prop := runesFormsRow.holds Try.pinned (OpenSpec.ofChange runesFormsWrong)

/-- 'canticlelaw01.RunesCuts': WHATEVER THE INPUT: true; the input reads as it did. -/
def runesCutsSpec : ChangeSpec := { name := "runesCuts", fn := fun _ => fun
  | [d1, d2, d3] => { results := [.lit (.bool true)], args := [d1, d2, d3] }
  | _ => none }
def runesCutsRow : OpenClaim := { program := "ytgpnheaefagfiaa", sum := "f56baed2b53da2ce91ea6f86483f443daf58d2830ffcee8dc178b0252fd49ede", func := "canticle/canticlelaw01.RunesCuts", spec := "runesCuts", unfollowed := true, recurses := true, apart := false }
def RunesCutsSaid : Prop := runesCutsRow.holds Try.pinned (OpenSpec.ofChange runesCutsSpec)

/-- ITS FALSE NEIGHBOUR: 'it returns false'. Refute it at one input. -/
def runesCutsWrong : ChangeSpec := { name := "runesCuts", fn := fun _ => fun
  | [d1, d2, d3] => { results := [.lit (.bool false)], args := [d1, d2, d3] }
  | _ => none }
def RunesCutsWrongFalsely : Prop := runesCutsRow.holds Try.pinned (OpenSpec.ofChange runesCutsWrong)

/-- 'canticlelaw01.RunesHolds': WHATEVER THE INPUT: true; the input reads as it did. -/
def runesHoldsSpec : ChangeSpec := { name := "runesHolds", fn := fun _ => fun
  | [d1, d2, d3] => { results := [.lit (.bool true)], args := [d1, d2, d3] }
  | _ => none }
def runesHoldsRow : OpenClaim := { program := "ytgpnheaefagfiaa", sum := "f56baed2b53da2ce91ea6f86483f443daf58d2830ffcee8dc178b0252fd49ede", func := "canticle/canticlelaw01.RunesHolds", spec := "runesHolds", unfollowed := true, recurses := true, apart := false }
def RunesHoldsSaid : Prop := runesHoldsRow.holds Try.pinned (OpenSpec.ofChange runesHoldsSpec)

/-- ITS FALSE NEIGHBOUR: 'it returns false'. Refute it at one input. -/
def runesHoldsWrong : ChangeSpec := { name := "runesHolds", fn := fun _ => fun
  | [d1, d2, d3] => { results := [.lit (.bool false)], args := [d1, d2, d3] }
  | _ => none }
def RunesHoldsWrongFalsely : Prop := runesHoldsRow.holds Try.pinned (OpenSpec.ofChange runesHoldsWrong)

/-- 'canticlelaw01.RunesJoins': WHATEVER THE INPUT: true; the input reads as it did. -/
def runesJoinsSpec : ChangeSpec := { name := "runesJoins", fn := fun _ => fun
  | [d1, d2] => { results := [.lit (.bool true)], args := [d1, d2] }
  | _ => none }
def runesJoinsRow : OpenClaim := { program := "ytgpnheaefagfiaa", sum := "f56baed2b53da2ce91ea6f86483f443daf58d2830ffcee8dc178b0252fd49ede", func := "canticle/canticlelaw01.RunesJoins", spec := "runesJoins", unfollowed := true, recurses := true, apart := false }
def RunesJoinsSaid : Prop := runesJoinsRow.holds Try.pinned (OpenSpec.ofChange runesJoinsSpec)

/-- ITS FALSE NEIGHBOUR: 'it returns false'. Refute it at one input. -/
def runesJoinsWrong : ChangeSpec := { name := "runesJoins", fn := fun _ => fun
  | [d1, d2] => { results := [.lit (.bool false)], args := [d1, d2] }
  | _ => none }
def RunesJoinsWrongFalsely : Prop := runesJoinsRow.holds Try.pinned (OpenSpec.ofChange runesJoinsWrong)

/-- 'canticlelaw01.RunesFeeds': WHATEVER THE INPUT: true; the input reads as it did. -/
def runesFeedsSpec : ChangeSpec := { name := "runesFeeds", fn := fun _ => fun
  | [d] => { results := [.lit (.bool true)], args := [d] }
  | _ => none }
def runesFeedsRow : OpenClaim := { program := "ytgpnheaefagfiaa", sum := "f56baed2b53da2ce91ea6f86483f443daf58d2830ffcee8dc178b0252fd49ede", func := "canticle/canticlelaw01.RunesFeeds", spec := "runesFeeds", unfollowed := true, recurses := true, apart := false }
def RunesFeedsSaid : Prop := runesFeedsRow.holds Try.pinned (OpenSpec.ofChange runesFeedsSpec)

/-- ITS FALSE NEIGHBOUR: 'it returns false'. Refute it at one input. -/
def runesFeedsWrong : ChangeSpec := { name := "runesFeeds", fn := fun _ => fun
  | [d] => { results := [.lit (.bool false)], args := [d] }
  | _ => none }
def RunesFeedsWrongFalsely : Prop := runesFeedsRow.holds Try.pinned (OpenSpec.ofChange runesFeedsWrong)

/-- 'canticlelaw01.RunesGo': WHATEVER THE INPUT: true; the input reads as it did. -/
def runesGoSpec : ChangeSpec := { name := "runesGo", fn := fun _ => fun
  | [d] => { results := [.lit (.bool true)], args := [d] }
  | _ => none }
def runesGoRow : OpenClaim := { program := "ytgpnheaefagfiaa", sum := "f56baed2b53da2ce91ea6f86483f443daf58d2830ffcee8dc178b0252fd49ede", func := "canticle/canticlelaw01.RunesGo", spec := "runesGo", unfollowed := true, recurses := true, apart := false }
def RunesGoSaid : Prop := runesGoRow.holds Try.pinned (OpenSpec.ofChange runesGoSpec)

/-- ITS FALSE NEIGHBOUR: 'it returns false'. Refute it at one input. -/
def runesGoWrong : ChangeSpec := { name := "runesGo", fn := fun _ => fun
  | [d] => { results := [.lit (.bool false)], args := [d] }
  | _ => none }
def RunesGoWrongFalsely : Prop := runesGoRow.holds Try.pinned (OpenSpec.ofChange runesGoWrong)

/-- 'canticlelaw01.RunesStrings': WHATEVER THE INPUT: true; the input reads as it did. -/
def runesStringsSpec : ChangeSpec := { name := "runesStrings", fn := fun _ => fun
  | [d] => { results := [.lit (.bool true)], args := [d] }
  | _ => none }
def runesStringsRow : OpenClaim := { program := "ytgpnheaefagfiaa", sum := "f56baed2b53da2ce91ea6f86483f443daf58d2830ffcee8dc178b0252fd49ede", func := "canticle/canticlelaw01.RunesStrings", spec := "runesStrings", unfollowed := true, recurses := true, apart := false }
def RunesStringsSaid : Prop := runesStringsRow.holds Try.pinned (OpenSpec.ofChange runesStringsSpec)

/-- ITS FALSE NEIGHBOUR: 'it returns false'. Refute it at one input. -/
def runesStringsWrong : ChangeSpec := { name := "runesStrings", fn := fun _ => fun
  | [d] => { results := [.lit (.bool false)], args := [d] }
  | _ => none }
def RunesStringsWrongFalsely : Prop := runesStringsRow.holds Try.pinned (OpenSpec.ofChange runesStringsWrong)

/-- 'canticlelaw01.RunesWhole': WHATEVER THE INPUT: true; the input reads as it did. -/
def runesWholeSpec : ChangeSpec := { name := "runesWhole", fn := fun _ => fun
  | [d] => { results := [.lit (.bool true)], args := [d] }
  | _ => none }
def runesWholeRow : OpenClaim := { program := "ytgpnheaefagfiaa", sum := "f56baed2b53da2ce91ea6f86483f443daf58d2830ffcee8dc178b0252fd49ede", func := "canticle/canticlelaw01.RunesWhole", spec := "runesWhole", unfollowed := true, recurses := true, apart := false }
def RunesWholeSaid : Prop := runesWholeRow.holds Try.pinned (OpenSpec.ofChange runesWholeSpec)

/-- ITS FALSE NEIGHBOUR: 'it returns false'. Refute it at one input. -/
def runesWholeWrong : ChangeSpec := { name := "runesWhole", fn := fun _ => fun
  | [d] => { results := [.lit (.bool false)], args := [d] }
  | _ => none }
def RunesWholeWrongFalsely : Prop := runesWholeRow.holds Try.pinned (OpenSpec.ofChange runesWholeWrong)

/- THE SECOND FORM. 'bulk': how many values and letters a reading holds, each counted each time it is reached (what is shared counts as often as it is met; a slice's spare places count too). A statement '..UptoSaid' is the law's where the arguments, and the package variables that the reading takes, are together of bulk at most 1048576: NARROWER than '..Said'. Prove '..Said' where nothing that the law and all that it calls make is longer than what came in: it says more and counts as full. Else prove '..UptoSaid'. A law counts once. -/
mutual
def uptoBulk {H : Type} : DataW H → Nat
  | .lit (.string bytes) => bytes.length + 1
  | .lit _ => 1
  | .nil => 1
  | .ptr d => uptoBulk d + 1
  | .slice elems spare => uptoBulkAll elems + uptoBulkAll spare + 1
  | .agg parts => uptoBulkAll parts + 1
  | .iface _ d => uptoBulk d + 1
  | .map entries => uptoBulkEntries entries + 1
  | .held _ => 1
def uptoBulkAll {H : Type} : List (DataW H) → Nat
  | [] => 0
  | d :: r => uptoBulk d + uptoBulkAll r
def uptoBulkEntries {H : Type} : List (Lit × DataW H) → Nat
  | [] => 0
  | x :: r => uptoBulkEntry x + uptoBulkEntries r
def uptoBulkEntry {H : Type} : Lit × DataW H → Nat
  | (.string bytes, d) => bytes.length + uptoBulk d + 1
  | (_, d) => uptoBulk d + 1
 end
def uptoSmall : (H : Type) → List (DataW H) → Bool := fun _ ds => decide (uptoBulkAll ds ≤ 1048576)
def OpenSpec.upto (s : _root_.Go.ChangeSpec) : _root_.Go.OpenSpec := { _root_.Go.OpenSpec.ofChange s with cond := some uptoSmall }

/-- 'canticlelaw01.RunesAts', WHERE WHAT IT READS IS OF BULK AT MOST 1048576: true; the input reads as it did. -/
def runesAtsUptoRow : OpenClaim := { program := "ytgpnheaefagfiaa", sum := "f56baed2b53da2ce91ea6f86483f443daf58d2830ffcee8dc178b0252fd49ede", func := "canticle/canticlelaw01.RunesAts", spec := "runesAts", unfollowed := true, recurses := true, apart := false, narrowed := true }
def RunesAtsUptoSaid : Prop := runesAtsUptoRow.holds Try.pinned (OpenSpec.upto runesAtsSpec)

/-- 'canticlelaw01.RunesPieces', WHERE WHAT IT READS IS OF BULK AT MOST 1048576: true; the input reads as it did. -/
def runesPiecesUptoRow : OpenClaim := { program := "ytgpnheaefagfiaa", sum := "f56baed2b53da2ce91ea6f86483f443daf58d2830ffcee8dc178b0252fd49ede", func := "canticle/canticlelaw01.RunesPieces", spec := "runesPieces", unfollowed := true, recurses := true, apart := false, narrowed := true }
def RunesPiecesUptoSaid : Prop := runesPiecesUptoRow.holds Try.pinned (OpenSpec.upto runesPiecesSpec)

/-- 'canticlelaw01.RunesCounts', WHERE WHAT IT READS IS OF BULK AT MOST 1048576: true; the input reads as it did. -/
def runesCountsUptoRow : OpenClaim := { program := "ytgpnheaefagfiaa", sum := "f56baed2b53da2ce91ea6f86483f443daf58d2830ffcee8dc178b0252fd49ede", func := "canticle/canticlelaw01.RunesCounts", spec := "runesCounts", unfollowed := true, recurses := true, apart := false, narrowed := true }
def RunesCountsUptoSaid : Prop := runesCountsUptoRow.holds Try.pinned (OpenSpec.upto runesCountsSpec)

/-- 'canticlelaw01.RunesBoundaries', WHERE WHAT IT READS IS OF BULK AT MOST 1048576: true; the input reads as it did. -/
def runesBoundariesUptoRow : OpenClaim := { program := "ytgpnheaefagfiaa", sum := "f56baed2b53da2ce91ea6f86483f443daf58d2830ffcee8dc178b0252fd49ede", func := "canticle/canticlelaw01.RunesBoundaries", spec := "runesBoundaries", unfollowed := true, recurses := true, apart := false, narrowed := true }
def RunesBoundariesUptoSaid : Prop := runesBoundariesUptoRow.holds Try.pinned (OpenSpec.upto runesBoundariesSpec)

/-- 'canticlelaw01.RunesForms', WHERE WHAT IT READS IS OF BULK AT MOST 1048576: true; the input reads as it did. -/
def runesFormsUptoRow : OpenClaim := { program := "ytgpnheaefagfiaa", sum := "f56baed2b53da2ce91ea6f86483f443daf58d2830ffcee8dc178b0252fd49ede", func := "canticle/canticlelaw01.RunesForms", spec := "runesForms", unfollowed := true, recurses := true, apart := false, narrowed := true }
def RunesFormsUptoSaid : Prop := runesFormsUptoRow.holds Try.pinned (OpenSpec.upto runesFormsSpec)

/-- 'canticlelaw01.RunesCuts', WHERE WHAT IT READS IS OF BULK AT MOST 1048576: true; the input reads as it did. -/
def runesCutsUptoRow : OpenClaim := { program := "ytgpnheaefagfiaa", sum := "f56baed2b53da2ce91ea6f86483f443daf58d2830ffcee8dc178b0252fd49ede", func := "canticle/canticlelaw01.RunesCuts", spec := "runesCuts", unfollowed := true, recurses := true, apart := false, narrowed := true }
def RunesCutsUptoSaid : Prop := runesCutsUptoRow.holds Try.pinned (OpenSpec.upto runesCutsSpec)

/-- 'canticlelaw01.RunesHolds', WHERE WHAT IT READS IS OF BULK AT MOST 1048576: true; the input reads as it did. -/
def runesHoldsUptoRow : OpenClaim := { program := "ytgpnheaefagfiaa", sum := "f56baed2b53da2ce91ea6f86483f443daf58d2830ffcee8dc178b0252fd49ede", func := "canticle/canticlelaw01.RunesHolds", spec := "runesHolds", unfollowed := true, recurses := true, apart := false, narrowed := true }
def RunesHoldsUptoSaid : Prop := runesHoldsUptoRow.holds Try.pinned (OpenSpec.upto runesHoldsSpec)

/-- 'canticlelaw01.RunesJoins', WHERE WHAT IT READS IS OF BULK AT MOST 1048576: true; the input reads as it did. -/
def runesJoinsUptoRow : OpenClaim := { program := "ytgpnheaefagfiaa", sum := "f56baed2b53da2ce91ea6f86483f443daf58d2830ffcee8dc178b0252fd49ede", func := "canticle/canticlelaw01.RunesJoins", spec := "runesJoins", unfollowed := true, recurses := true, apart := false, narrowed := true }
def RunesJoinsUptoSaid : Prop := runesJoinsUptoRow.holds Try.pinned (OpenSpec.upto runesJoinsSpec)

/-- 'canticlelaw01.RunesFeeds', WHERE WHAT IT READS IS OF BULK AT MOST 1048576: true; the input reads as it did. -/
def runesFeedsUptoRow : OpenClaim := { program := "ytgpnheaefagfiaa", sum := "f56baed2b53da2ce91ea6f86483f443daf58d2830ffcee8dc178b0252fd49ede", func := "canticle/canticlelaw01.RunesFeeds", spec := "runesFeeds", unfollowed := true, recurses := true, apart := false, narrowed := true }
def RunesFeedsUptoSaid : Prop := runesFeedsUptoRow.holds Try.pinned (OpenSpec.upto runesFeedsSpec)

/-- 'canticlelaw01.RunesGo', WHERE WHAT IT READS IS OF BULK AT MOST 1048576: true; the input reads as it did. -/
def runesGoUptoRow : OpenClaim := { program := "ytgpnheaefagfiaa", sum := "f56baed2b53da2ce91ea6f86483f443daf58d2830ffcee8dc178b0252fd49ede", func := "canticle/canticlelaw01.RunesGo", spec := "runesGo", unfollowed := true, recurses := true, apart := false, narrowed := true }
def RunesGoUptoSaid : Prop := runesGoUptoRow.holds Try.pinned (OpenSpec.upto runesGoSpec)

/-- 'canticlelaw01.RunesStrings', WHERE WHAT IT READS IS OF BULK AT MOST 1048576: true; the input reads as it did. -/
def runesStringsUptoRow : OpenClaim := { program := "ytgpnheaefagfiaa", sum := "f56baed2b53da2ce91ea6f86483f443daf58d2830ffcee8dc178b0252fd49ede", func := "canticle/canticlelaw01.RunesStrings", spec := "runesStrings", unfollowed := true, recurses := true, apart := false, narrowed := true }
def RunesStringsUptoSaid : Prop := runesStringsUptoRow.holds Try.pinned (OpenSpec.upto runesStringsSpec)

/-- 'canticlelaw01.RunesWhole', WHERE WHAT IT READS IS OF BULK AT MOST 1048576: true; the input reads as it did. -/
def runesWholeUptoRow : OpenClaim := { program := "ytgpnheaefagfiaa", sum := "f56baed2b53da2ce91ea6f86483f443daf58d2830ffcee8dc178b0252fd49ede", func := "canticle/canticlelaw01.RunesWhole", spec := "runesWhole", unfollowed := true, recurses := true, apart := false, narrowed := true }
def RunesWholeUptoSaid : Prop := runesWholeUptoRow.holds Try.pinned (OpenSpec.upto runesWholeSpec)

end Rows
end Go.Proofs.Ytgpnheaefagfiaa
