/-
  No cell of these rows narrows 'for every input' (looked for: loops, veiled, ifaces, maps, wideKeys, modest, calm, conditions, laid).
  DERIVED. THE GIVEN ROWS OF THIS SEAT. 9 by the template 'for every input the law returns true; each argument reads behind the call as it read before'; 0 by the template 'total and deterministic' (their statements: YtjlfdoonhfkabaaTotals.lean).
  GIVEN WITH THE SEED: the statements are not yours to turn. If you find one false, say at which input.
  Laid BY PROGRAM, IN A SANDBOX (cutbox-rows.mjs): the forced cells as the released guide's own fill.sh prints them over the translation 3e4da71c515b8109… (all of the seat's roots in one cut). By AI agents, Wed Nov 11 2026. No macro, syntax, notation, axiom, sorry.
-/
import Derived.Test.YtjlfdoonhfkabaaChecked
import GoSem.Claim
import GoSem.ClaimJoined
import GoSem.ClaimMapViews
import Derived.JoinedTies
import Derived.KernelRfl
namespace Go.Proofs.Ytjlfdoonhfkabaa
/- THE CELL 'sum', in the pinned program and in every row, IS THE sha256 OF THE DUMP (.gsa) THAT YtjlfdoonhfkabaaProg.lean LOADS. Nothing in Lean hashes anything: it is a label: what it is worth is what the hold of that sum in a sandbox is worth. -/
noncomputable def Try.pinned : Pinned := { name := "ytjlfdoonhfkabaa", sum := "3e4da71c515b8109867b755aa687ca40c6bb87ab27a60c7863493a8b24a4a7dc", checked := Try.checked }
namespace Rows
def none {H : Type} : Left H := { results := [], args := [] }

/-- 'canticlelaw02.PlaceKnown': WHATEVER THE INPUT: true; the input reads as it did. -/
def placeKnownSpec : ChangeSpec := { name := "placeKnown", fn := fun _ => fun
  | [] => { results := [.lit (.bool true)], args := [] }
  | _ => none }
def placeKnownRow : OpenClaim := { program := "ytjlfdoonhfkabaa", sum := "3e4da71c515b8109867b755aa687ca40c6bb87ab27a60c7863493a8b24a4a7dc", func := "canticle/canticlelaw02.PlaceKnown", spec := "placeKnown", unfollowed := true, recurses := true, apart := false }
def PlaceKnownSaid : Prop := placeKnownRow.holds Try.pinned (OpenSpec.ofChange placeKnownSpec)

/-- ITS FALSE NEIGHBOUR: 'it returns false'. Refute it at one input. -/
def placeKnownWrong : ChangeSpec := { name := "placeKnown", fn := fun _ => fun
  | [] => { results := [.lit (.bool false)], args := [] }
  | _ => none }
def PlaceKnownWrongFalsely : Prop := placeKnownRow.holds Try.pinned (OpenSpec.ofChange placeKnownWrong)

/-- 'canticlelaw02.PlaceTells': WHATEVER THE INPUT: true; the input reads as it did. -/
def placeTellsSpec : ChangeSpec := { name := "placeTells", fn := fun _ => fun
  | [d1, d2] => { results := [.lit (.bool true)], args := [d1, d2] }
  | _ => none }
def placeTellsRow : OpenClaim := { program := "ytjlfdoonhfkabaa", sum := "3e4da71c515b8109867b755aa687ca40c6bb87ab27a60c7863493a8b24a4a7dc", func := "canticle/canticlelaw02.PlaceTells", spec := "placeTells", unfollowed := true, recurses := true, apart := false }
def PlaceTellsSaid : Prop := placeTellsRow.holds Try.pinned (OpenSpec.ofChange placeTellsSpec)

/-- ITS FALSE NEIGHBOUR: 'it returns false'. Refute it at one input. -/
def placeTellsWrong : ChangeSpec := { name := "placeTells", fn := fun _ => fun
  | [d1, d2] => { results := [.lit (.bool false)], args := [d1, d2] }
  | _ => none }
def PlaceTellsWrongFalsely : Prop := placeTellsRow.holds Try.pinned (OpenSpec.ofChange placeTellsWrong)

/-- 'canticlelaw02.PlaceMoves': WHATEVER THE INPUT: true; the input reads as it did. -/
def placeMovesSpec : ChangeSpec := { name := "placeMoves", fn := fun _ => fun
  | [d1, d2, d3, d4] => { results := [.lit (.bool true)], args := [d1, d2, d3, d4] }
  | _ => none }
def placeMovesRow : OpenClaim := { program := "ytjlfdoonhfkabaa", sum := "3e4da71c515b8109867b755aa687ca40c6bb87ab27a60c7863493a8b24a4a7dc", func := "canticle/canticlelaw02.PlaceMoves", spec := "placeMoves", unfollowed := true, recurses := true, apart := false }
def PlaceMovesSaid : Prop := placeMovesRow.holds Try.pinned (OpenSpec.ofChange placeMovesSpec)

/-- ITS FALSE NEIGHBOUR: 'it returns false'. Refute it at one input. -/
def placeMovesWrong : ChangeSpec := { name := "placeMoves", fn := fun _ => fun
  | [d1, d2, d3, d4] => { results := [.lit (.bool false)], args := [d1, d2, d3, d4] }
  | _ => none }
def PlaceMovesWrongFalsely : Prop := placeMovesRow.holds Try.pinned (OpenSpec.ofChange placeMovesWrong)

/-- 'canticlelaw02.PlaceShifts': WHATEVER THE INPUT: true; the input reads as it did. -/
def placeShiftsSpec : ChangeSpec := { name := "placeShifts", fn := fun _ => fun
  | [d1, d2, d3] => { results := [.lit (.bool true)], args := [d1, d2, d3] }
  | _ => none }
def placeShiftsRow : OpenClaim := { program := "ytjlfdoonhfkabaa", sum := "3e4da71c515b8109867b755aa687ca40c6bb87ab27a60c7863493a8b24a4a7dc", func := "canticle/canticlelaw02.PlaceShifts", spec := "placeShifts", unfollowed := true, recurses := true, apart := false }
def PlaceShiftsSaid : Prop := placeShiftsRow.holds Try.pinned (OpenSpec.ofChange placeShiftsSpec)

/-- ITS FALSE NEIGHBOUR: 'it returns false'. Refute it at one input. -/
def placeShiftsWrong : ChangeSpec := { name := "placeShifts", fn := fun _ => fun
  | [d1, d2, d3] => { results := [.lit (.bool false)], args := [d1, d2, d3] }
  | _ => none }
def PlaceShiftsWrongFalsely : Prop := placeShiftsRow.holds Try.pinned (OpenSpec.ofChange placeShiftsWrong)

/-- 'canticlelaw02.PlaceOne': WHATEVER THE INPUT: true; the input reads as it did. -/
def placeOneSpec : ChangeSpec := { name := "placeOne", fn := fun _ => fun
  | [d] => { results := [.lit (.bool true)], args := [d] }
  | _ => none }
def placeOneRow : OpenClaim := { program := "ytjlfdoonhfkabaa", sum := "3e4da71c515b8109867b755aa687ca40c6bb87ab27a60c7863493a8b24a4a7dc", func := "canticle/canticlelaw02.PlaceOne", spec := "placeOne", unfollowed := true, recurses := true, apart := false }
def PlaceOneSaid : Prop := placeOneRow.holds Try.pinned (OpenSpec.ofChange placeOneSpec)

/-- ITS FALSE NEIGHBOUR: 'it returns false'. Refute it at one input. -/
def placeOneWrong : ChangeSpec := { name := "placeOne", fn := fun _ => fun
  | [d] => { results := [.lit (.bool false)], args := [d] }
  | _ => none }
def PlaceOneWrongFalsely : Prop := placeOneRow.holds Try.pinned (OpenSpec.ofChange placeOneWrong)

/-- 'canticlelaw02.PlaceGo': WHATEVER THE INPUT: true; the input reads as it did. -/
def placeGoSpec : ChangeSpec := { name := "placeGo", fn := fun _ => fun
  | [d] => { results := [.lit (.bool true)], args := [d] }
  | _ => none }
def placeGoRow : OpenClaim := { program := "ytjlfdoonhfkabaa", sum := "3e4da71c515b8109867b755aa687ca40c6bb87ab27a60c7863493a8b24a4a7dc", func := "canticle/canticlelaw02.PlaceGo", spec := "placeGo", unfollowed := true, recurses := true, apart := false }
def PlaceGoSaid : Prop := placeGoRow.holds Try.pinned (OpenSpec.ofChange placeGoSpec)

/-- ITS FALSE NEIGHBOUR: 'it returns false'. Refute it at one input. -/
def placeGoWrong : ChangeSpec := { name := "placeGo", fn := fun _ => fun
  | [d] => { results := [.lit (.bool false)], args := [d] }
  | _ => none }
def PlaceGoWrongFalsely : Prop := placeGoRow.holds Try.pinned (OpenSpec.ofChange placeGoWrong)

/-- 'canticlelaw02.PlaceLines': WHATEVER THE INPUT: true; the input reads as it did. -/
def placeLinesSpec : ChangeSpec := { name := "placeLines", fn := fun _ => fun
  | [d] => { results := [.lit (.bool true)], args := [d] }
  | _ => none }
def placeLinesRow : OpenClaim := { program := "ytjlfdoonhfkabaa", sum := "3e4da71c515b8109867b755aa687ca40c6bb87ab27a60c7863493a8b24a4a7dc", func := "canticle/canticlelaw02.PlaceLines", spec := "placeLines", unfollowed := true, recurses := true, apart := false }
def PlaceLinesSaid : Prop := placeLinesRow.holds Try.pinned (OpenSpec.ofChange placeLinesSpec)

/-- ITS FALSE NEIGHBOUR: 'it returns false'. Refute it at one input. -/
def placeLinesWrong : ChangeSpec := { name := "placeLines", fn := fun _ => fun
  | [d] => { results := [.lit (.bool false)], args := [d] }
  | _ => none }
def PlaceLinesWrongFalsely : Prop := placeLinesRow.holds Try.pinned (OpenSpec.ofChange placeLinesWrong)

/-- 'canticlelaw02.PlaceMoved': WHATEVER THE INPUT: true; the input reads as it did. -/
def placeMovedSpec : ChangeSpec := { name := "placeMoved", fn := fun _ => fun
  | [d1, d2, d3, d4] => { results := [.lit (.bool true)], args := [d1, d2, d3, d4] }
  | _ => none }
def placeMovedRow : OpenClaim := { program := "ytjlfdoonhfkabaa", sum := "3e4da71c515b8109867b755aa687ca40c6bb87ab27a60c7863493a8b24a4a7dc", func := "canticle/canticlelaw02.PlaceMoved", spec := "placeMoved", unfollowed := true, recurses := true, apart := false }
def PlaceMovedSaid : Prop := placeMovedRow.holds Try.pinned (OpenSpec.ofChange placeMovedSpec)

/-- ITS FALSE NEIGHBOUR: 'it returns false'. Refute it at one input. -/
def placeMovedWrong : ChangeSpec := { name := "placeMoved", fn := fun _ => fun
  | [d1, d2, d3, d4] => { results := [.lit (.bool false)], args := [d1, d2, d3, d4] }
  | _ => none }
def PlaceMovedWrongFalsely : Prop := placeMovedRow.holds Try.pinned (OpenSpec.ofChange placeMovedWrong)

/-- 'canticlelaw02.PlaceCut': WHATEVER THE INPUT: true; the input reads as it did. -/
def placeCutSpec : ChangeSpec := { name := "placeCut", fn := fun _ => fun
  | [d1, d2] => { results := [.lit (.bool true)], args := [d1, d2] }
  | _ => none }
def placeCutRow : OpenClaim := { program := "ytjlfdoonhfkabaa", sum := "3e4da71c515b8109867b755aa687ca40c6bb87ab27a60c7863493a8b24a4a7dc", func := "canticle/canticlelaw02.PlaceCut", spec := "placeCut", unfollowed := true, recurses := true, apart := false }
def PlaceCutSaid : Prop := placeCutRow.holds Try.pinned (OpenSpec.ofChange placeCutSpec)

/-- ITS FALSE NEIGHBOUR: 'it returns false'. Refute it at one input. -/
def placeCutWrong : ChangeSpec := { name := "placeCut", fn := fun _ => fun
  | [d1, d2] => { results := [.lit (.bool false)], args := [d1, d2] }
  | _ => none }
def PlaceCutWrongFalsely : Prop := placeCutRow.holds Try.pinned (OpenSpec.ofChange placeCutWrong)

/- THE SECOND FORM. 'bulk': how many values and letters a reading holds, each counted each time it is reached (what is shared counts as often as it is met; a slice's spare places count too). A statement '..UptoSaid' is the law's where the arguments, and the package variables that the reading takes, are together of bulk at most 1048576: NARROWER than '..Said'. Prove '..Said' where nothing that the law and all that it calls make is longer than what came in: it says more and counts as full. Else prove '..UptoSaid'. A law counts once. -/
mutual
def uptoBulk {H : Type} : DataW H → Nat
  | .lit (.string bytes) => bytes.length + 1
  | .lit _ => 1
  | .nil => 1
  | .ptr d => uptoBulk d + 1
  | .slice elems spare => uptoBulkAll elems + uptoBulkAll spare + 1
  | .agg parts => uptoBulkAll parts + 1
  | .iface _ d => uptoBulk d + 1
  | .map entries => uptoBulkEntries entries + 1
  | .held _ => 1
def uptoBulkAll {H : Type} : List (DataW H) → Nat
  | [] => 0
  | d :: r => uptoBulk d + uptoBulkAll r
def uptoBulkEntries {H : Type} : List (Lit × DataW H) → Nat
  | [] => 0
  | x :: r => uptoBulkEntry x + uptoBulkEntries r
def uptoBulkEntry {H : Type} : Lit × DataW H → Nat
  | (.string bytes, d) => bytes.length + uptoBulk d + 1
  | (_, d) => uptoBulk d + 1
 end
def uptoSmall : (H : Type) → List (DataW H) → Bool := fun _ ds => decide (uptoBulkAll ds ≤ 1048576)
def OpenSpec.upto (s : _root_.Go.ChangeSpec) : _root_.Go.OpenSpec := { _root_.Go.OpenSpec.ofChange s with cond := some uptoSmall }

/-- 'canticlelaw02.PlaceKnown', WHERE WHAT IT READS IS OF BULK AT MOST 1048576: true; the input reads as it did. -/
def placeKnownUptoRow : OpenClaim := { program := "ytjlfdoonhfkabaa", sum := "3e4da71c515b8109867b755aa687ca40c6bb87ab27a60c7863493a8b24a4a7dc", func := "canticle/canticlelaw02.PlaceKnown", spec := "placeKnown", unfollowed := true, recurses := true, apart := false, narrowed := true }
def PlaceKnownUptoSaid : Prop := placeKnownUptoRow.holds Try.pinned (OpenSpec.upto placeKnownSpec)

/-- 'canticlelaw02.PlaceTells', WHERE WHAT IT READS IS OF BULK AT MOST 1048576: true; the input reads as it did. -/
def placeTellsUptoRow : OpenClaim := { program := "ytjlfdoonhfkabaa", sum := "3e4da71c515b8109867b755aa687ca40c6bb87ab27a60c7863493a8b24a4a7dc", func := "canticle/canticlelaw02.PlaceTells", spec := "placeTells", unfollowed := true, recurses := true, apart := false, narrowed := true }
def PlaceTellsUptoSaid : Prop := placeTellsUptoRow.holds Try.pinned (OpenSpec.upto placeTellsSpec)

/-- 'canticlelaw02.PlaceMoves', WHERE WHAT IT READS IS OF BULK AT MOST 1048576: true; the input reads as it did. -/
def placeMovesUptoRow : OpenClaim := { program := "ytjlfdoonhfkabaa", sum := "3e4da71c515b8109867b755aa687ca40c6bb87ab27a60c7863493a8b24a4a7dc", func := "canticle/canticlelaw02.PlaceMoves", spec := "placeMoves", unfollowed := true, recurses := true, apart := false, narrowed := true }
def PlaceMovesUptoSaid : Prop := placeMovesUptoRow.holds Try.pinned (OpenSpec.upto placeMovesSpec)

/-- 'canticlelaw02.PlaceShifts', WHERE WHAT IT READS IS OF BULK AT MOST 1048576: true; the input reads as it did. -/
def placeShiftsUptoRow : OpenClaim := { program := "ytjlfdoonhfkabaa", sum := "3e4da71c515b8109867b755aa687ca40c6bb87ab27a60c7863493a8b24a4a7dc", func := "canticle/canticlelaw02.PlaceShifts", spec := "placeShifts", unfollowed := true, recurses := true, apart := false, narrowed := true }
def PlaceShiftsUptoSaid : Prop := placeShiftsUptoRow.holds Try.pinned (OpenSpec.upto placeShiftsSpec)

/-- 'canticlelaw02.PlaceOne', WHERE WHAT IT READS IS OF BULK AT MOST 1048576: true; the input reads as it did. -/
def placeOneUptoRow : OpenClaim := { program := "ytjlfdoonhfkabaa", sum := "3e4da71c515b8109867b755aa687ca40c6bb87ab27a60c7863493a8b24a4a7dc", func := "canticle/canticlelaw02.PlaceOne", spec := "placeOne", unfollowed := true, recurses := true, apart := false, narrowed := true }
def PlaceOneUptoSaid : Prop := placeOneUptoRow.holds Try.pinned (OpenSpec.upto placeOneSpec)

/-- 'canticlelaw02.PlaceGo', WHERE WHAT IT READS IS OF BULK AT MOST 1048576: true; the input reads as it did. -/
def placeGoUptoRow : OpenClaim := { program := "ytjlfdoonhfkabaa", sum := "3e4da71c515b8109867b755aa687ca40c6bb87ab27a60c7863493a8b24a4a7dc", func := "canticle/canticlelaw02.PlaceGo", spec := "placeGo", unfollowed := true, recurses := true, apart := false, narrowed := true }
def PlaceGoUptoSaid : Prop := placeGoUptoRow.holds Try.pinned (OpenSpec.upto placeGoSpec)

/-- 'canticlelaw02.PlaceLines', WHERE WHAT IT READS IS OF BULK AT MOST 1048576: true; the input reads as it did. -/
def placeLinesUptoRow : OpenClaim := { program := "ytjlfdoonhfkabaa", sum := "3e4da71c515b8109867b755aa687ca40c6bb87ab27a60c7863493a8b24a4a7dc", func := "canticle/canticlelaw02.PlaceLines", spec := "placeLines", unfollowed := true, recurses := true, apart := false, narrowed := true }
def PlaceLinesUptoSaid : Prop := placeLinesUptoRow.holds Try.pinned (OpenSpec.upto placeLinesSpec)

/-- 'canticlelaw02.PlaceMoved', WHERE WHAT IT READS IS OF BULK AT MOST 1048576: true; the input reads as it did. -/
def placeMovedUptoRow : OpenClaim := { program := "ytjlfdoonhfkabaa", sum := "3e4da71c515b8109867b755aa687ca40c6bb87ab27a60c7863493a8b24a4a7dc", func := "canticle/canticlelaw02.PlaceMoved", spec := "placeMoved", unfollowed := true, recurses := true, apart := false, narrowed := true }
def PlaceMovedUptoSaid : Prop := placeMovedUptoRow.holds Try.pinned (OpenSpec.upto placeMovedSpec)

/-- 'canticlelaw02.PlaceCut', WHERE WHAT IT READS IS OF BULK AT MOST 1048576: true; the input reads as it did. -/
def placeCutUptoRow : OpenClaim := { program := "ytjlfdoonhfkabaa", sum := "3e4da71c515b8109867b755aa687ca40c6bb87ab27a60c7863493a8b24a4a7dc", func := "canticle/canticlelaw02.PlaceCut", spec := "placeCut", unfollowed := true, recurses := true, apart := false, narrowed := true }
def PlaceCutUptoSaid : Prop := placeCutUptoRow.holds Try.pinned (OpenSpec.upto placeCutSpec)

end Rows
end Go.Proofs.Ytjlfdoonhfkabaa
