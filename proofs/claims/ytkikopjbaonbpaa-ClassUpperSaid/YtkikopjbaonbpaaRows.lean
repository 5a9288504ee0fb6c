/-
  No cell of these rows narrows 'for every input' (looked for: loops, veiled, ifaces, maps, wideKeys, modest, calm, conditions, laid).
  DERIVED. THE GIVEN ROWS OF THIS SEAT. 3 by the template 'for every input the law returns true; each argument reads behind the call as it read before'; 0 by the template 'total and deterministic' (their statements: YtkikopjbaonbpaaTotals.lean).
  GIVEN WITH THE SEED: the statements are not yours to turn. If you find one false, say at which input.
  Laid BY PROGRAM, IN A SANDBOX (cutbox-rows.mjs): the forced cells as the released guide's own fill.sh prints them over the translation 3cb1e9bea02c9ded… (all of the seat's roots in one cut). By AI agents, Wed Nov 11 2026. No macro, syntax, notation, axiom, sorry.
-/
import Derived.Test.YtkikopjbaonbpaaChecked
import GoSem.Claim
import GoSem.ClaimJoined
import GoSem.ClaimMapViews
import Derived.JoinedTies
import Derived.KernelRfl
namespace Go.Proofs.Ytkikopjbaonbpaa
/- THE CELL 'sum', in the pinned program and in every row, IS THE sha256 OF THE DUMP (.gsa) THAT YtkikopjbaonbpaaProg.lean LOADS. Nothing in Lean hashes anything: it is a label: what it is worth is what the hold of that sum in a sandbox is worth. -/
noncomputable def Try.pinned : Pinned := { name := "ytkikopjbaonbpaa", sum := "3cb1e9bea02c9ded5a12e6848f0bd7da17349e5e9f800a289167ea73f5d91e07", checked := Try.checked }
namespace Rows
def none {H : Type} : Left H := { results := [], args := [] }

/-- 'canticlelaw03.ClassLower': WHATEVER THE INPUT: true; the input reads as it did. -/
def classLowerSpec : ChangeSpec := { name := "classLower", fn := fun _ => fun
  | [d] => { results := [.lit (.bool true)], args := [d] }
  | _ => none }
def classLowerRow : OpenClaim := { program := "ytkikopjbaonbpaa", sum := "3cb1e9bea02c9ded5a12e6848f0bd7da17349e5e9f800a289167ea73f5d91e07", func := "canticle/canticlelaw03.ClassLower", spec := "classLower", unfollowed := true, recurses := true, apart := false }
def ClassLowerSaid : Prop := classLowerRow.holds Try.pinned (OpenSpec.ofChange classLowerSpec)

/-- ITS FALSE NEIGHBOUR: 'it returns false'. Refute it at one input. -/
def classLowerWrong : ChangeSpec := { name := "classLower", fn := fun _ => fun
  | [d] => { results := [.lit (.bool false)], args := [d] }
  | _ => none }
def ClassLowerWrongFalsely : Prop := classLowerRow.holds Try.pinned (OpenSpec.ofChange classLowerWrong)

/-- 'canticlelaw03.ClassUpper': WHATEVER THE INPUT: true; the input reads as it did. -/
def classUpperSpec : ChangeSpec := { name := "classUpper", fn := fun _ => fun
  | [d] => { results := [.lit (.bool true)], args := [d] }
  | _ => none }
def classUpperRow : OpenClaim := { program := "ytkikopjbaonbpaa", sum := "3cb1e9bea02c9ded5a12e6848f0bd7da17349e5e9f800a289167ea73f5d91e07", func := "canticle/canticlelaw03.ClassUpper", spec := "classUpper", unfollowed := true, recurses := true, apart := false }
def ClassUpperSaid : Prop := classUpperRow.holds Try.pinned (OpenSpec.ofChange classUpperSpec)

/-- ITS FALSE NEIGHBOUR: 'it returns false'. Refute it at one input. -/
def classUpperWrong : ChangeSpec := { name := "classUpper", fn := fun _ => fun
  | [d] => { results := [.lit (.bool false)], args := [d] }
  | _ => none }
def ClassUpperWrongFalsely : Prop := classUpperRow.holds Try.pinned (OpenSpec.ofChange classUpperWrong)

/-- 'canticlelaw03.ClassJoin': WHATEVER THE INPUT: true; the input reads as it did. -/
def classJoinSpec : ChangeSpec := { name := "classJoin", fn := fun _ => fun
  | [d1, d2] => { results := [.lit (.bool true)], args := [d1, d2] }
  | _ => none }
def classJoinRow : OpenClaim := { program := "ytkikopjbaonbpaa", sum := "3cb1e9bea02c9ded5a12e6848f0bd7da17349e5e9f800a289167ea73f5d91e07", func := "canticle/canticlelaw03.ClassJoin", spec := "classJoin", unfollowed := true, recurses := true, apart := false }
def ClassJoinSaid : Prop := classJoinRow.holds Try.pinned (OpenSpec.ofChange classJoinSpec)

/-- ITS FALSE NEIGHBOUR: 'it returns false'. Refute it at one input. -/
def classJoinWrong : ChangeSpec := { name := "classJoin", fn := fun _ => fun
  | [d1, d2] => { results := [.lit (.bool false)], args := [d1, d2] }
  | _ => none }
def ClassJoinWrongFalsely : Prop := classJoinRow.holds Try.pinned (OpenSpec.ofChange classJoinWrong)

/- THE SECOND FORM. 'bulk': how many values and letters a reading holds, each counted each time it is reached (what is shared counts as often as it is met; a slice's spare places count too). A statement '..UptoSaid' is the law's where the arguments, and the package variables that the reading takes, are together of bulk at most 1048576: NARROWER than '..Said'. Prove '..Said' where nothing that the law and all that it calls make is longer than what came in: it says more and counts as full. Else prove '..UptoSaid'. A law counts once. -/
mutual
def uptoBulk {H : Type} : DataW H → Nat
  | .lit (.string bytes) => bytes.length + 1
  | .lit _ => 1
  | .nil => 1
  | .ptr d => uptoBulk d + 1
  | .slice elems spare => uptoBulkAll elems + uptoBulkAll spare + 1
  | .agg parts => uptoBulkAll parts + 1
  | .iface _ d => uptoBulk d + 1
  | .map entries => uptoBulkEntries entries + 1
  | .held _ => 1
def uptoBulkAll {H : Type} : List (DataW H) → Nat
  | [] => 0
  | d :: r => uptoBulk d + uptoBulkAll r
def uptoBulkEntries {H : Type} : List (Lit × DataW H) → Nat
  | [] => 0
  | x :: r => uptoBulkEntry x + uptoBulkEntries r
def uptoBulkEntry {H : Type} : Lit × DataW H → Nat
  | (.string bytes, d) => bytes.length + uptoBulk d + 1
  | (_, d) => uptoBulk d + 1
 end
def uptoSmall : (H : Type) → List (DataW H) → Bool := fun _ ds => decide (uptoBulkAll ds ≤ 1048576)
def OpenSpec.upto (s : _root_.Go.ChangeSpec) : _root_.Go.OpenSpec := { _root_.Go.OpenSpec.ofChange s with cond := some uptoSmall }

/-- 'canticlelaw03.ClassLower', WHERE WHAT IT READS IS OF BULK AT MOST 1048576: true; the input reads as it did. -/
def classLowerUptoRow : OpenClaim := { program := "ytkikopjbaonbpaa", sum := "3cb1e9bea02c9ded5a12e6848f0bd7da17349e5e9f800a289167ea73f5d91e07", func := "canticle/canticlelaw03.ClassLower", spec := "classLower", unfollowed := true, recurses := true, apart := false, narrowed := true }
def ClassLowerUptoSaid : Prop := classLowerUptoRow.holds Try.pinned (OpenSpec.upto classLowerSpec)

/-- 'canticlelaw03.ClassUpper', WHERE WHAT IT READS IS OF BULK AT MOST 1048576: true; the input reads as it did. -/
def classUpperUptoRow : OpenClaim := { program := "ytkikopjbaonbpaa", sum := "3cb1e9bea02c9ded5a12e6848f0bd7da17349e5e9f800a289167ea73f5d91e07", func := "canticle/canticlelaw03.ClassUpper", spec := "classUpper", unfollowed := true, recurses := true, apart := false, narrowed := true }
def ClassUpperUptoSaid : Prop := classUpperUptoRow.holds Try.pinned (OpenSpec.upto classUpperSpec)

/-- 'canticlelaw03.ClassJoin', WHERE WHAT IT READS IS OF BULK AT MOST 1048576: true; the input reads as it did. -/
def classJoinUptoRow : OpenClaim := { program := "ytkikopjbaonbpaa", sum := "3cb1e9bea02c9ded5a12e6848f0bd7da17349e5e9f800a289167ea73f5d91e07", func := "canticle/canticlelaw03.ClassJoin", spec := "classJoin", unfollowed := true, recurses := true, apart := false, narrowed := true }
def ClassJoinUptoSaid : Prop := classJoinUptoRow.holds Try.pinned (OpenSpec.upto classJoinSpec)

end Rows
end Go.Proofs.Ytkikopjbaonbpaa
