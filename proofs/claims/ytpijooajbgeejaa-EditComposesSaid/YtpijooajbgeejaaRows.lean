/-
  No cell of these rows narrows 'for every input' (looked for: loops, veiled, ifaces, maps, wideKeys, modest, calm, conditions, laid).
  DERIVED. THE GIVEN ROWS OF THIS SEAT. 3 by the template 'for every input the law returns true; each argument reads behind the call as it read before'; 0 by the template 'total and deterministic' (their statements: YtpijooajbgeejaaTotals.lean).
  GIVEN WITH THE SEED: the statements are not yours to turn. If you find one false, say at which input.
  Laid BY PROGRAM, IN A SANDBOX (cutbox-rows.mjs): the forced cells as the released guide's own fill.sh prints them over the translation 49b2288830a95d06… (all of the seat's roots in one cut). By AI agents, Wed Nov 11 2026. No macro, syntax, notation, axiom, sorry.
-/
import Derived.Test.YtpijooajbgeejaaChecked
import GoSem.Claim
import GoSem.ClaimJoined
import GoSem.ClaimMapViews
import Derived.JoinedTies
import Derived.KernelRfl
namespace Go.Proofs.Ytpijooajbgeejaa
/- THE CELL 'sum', in the pinned program and in every row, IS THE sha256 OF THE DUMP (.gsa) THAT YtpijooajbgeejaaProg.lean LOADS. Nothing in Lean hashes anything: it is a label: what it is worth is what the hold of that sum in a sandbox is worth. -/
noncomputable def Try.pinned : Pinned := { name := "ytpijooajbgeejaa", sum := "49b2288830a95d06abadf922ce7a98a79fd62fc0273013f48567f40247ea318e", checked := Try.checked }
namespace Rows
def none {H : Type} : Left H := { results := [], args := [] }

/-- 'canticlelaw27.EditComposes': WHATEVER THE INPUT: true; the input reads as it did. -/
def editComposesSpec : ChangeSpec := { name := "editComposes", fn := fun _ => fun
  | [d1, d2] => { results := [.lit (.bool true)], args := [d1, d2] }
  | _ => none }
def editComposesRow : OpenClaim := { program := "ytpijooajbgeejaa", sum := "49b2288830a95d06abadf922ce7a98a79fd62fc0273013f48567f40247ea318e", func := "canticle/canticlelaw27.EditComposes", spec := "editComposes", apart := false }
def EditComposesSaid : Prop := editComposesRow.holds Try.pinned (OpenSpec.ofChange editComposesSpec)

/-- ITS FALSE NEIGHBOUR: 'it returns false'. Refute it at one input. -/
def editComposesWrong : ChangeSpec := { name := "editComposes", fn := fun _ => fun
  | [d1, d2] => { results := [.lit (.bool false)], args := [d1, d2] }
  | _ => none }
def EditComposesWrongFalsely : Prop := editComposesRow.holds Try.pinned (OpenSpec.ofChange editComposesWrong)

/-- 'canticlelaw27.EditCarries': WHATEVER THE INPUT: true; the input reads as it did. -/
def editCarriesSpec : ChangeSpec := { name := "editCarries", fn := fun _ => fun
  | [d1, d2] => { results := [.lit (.bool true)], args := [d1, d2] }
  | _ => none }
def editCarriesRow : OpenClaim := { program := "ytpijooajbgeejaa", sum := "49b2288830a95d06abadf922ce7a98a79fd62fc0273013f48567f40247ea318e", func := "canticle/canticlelaw27.EditCarries", spec := "editCarries", apart := false }
def EditCarriesSaid : Prop := editCarriesRow.holds Try.pinned (OpenSpec.ofChange editCarriesSpec)

/-- ITS FALSE NEIGHBOUR: 'it returns false'. Refute it at one input. -/
def editCarriesWrong : ChangeSpec := { name := "editCarries", fn := fun _ => fun
  | [d1, d2] => { results := [.lit (.bool false)], args := [d1, d2] }
  | _ => none }
def EditCarriesWrongFalsely : Prop := editCarriesRow.holds Try.pinned (OpenSpec.ofChange editCarriesWrong)

/-- 'canticlelaw27.EditConverges': WHATEVER THE INPUT: true; the input reads as it did. -/
def editConvergesSpec : ChangeSpec := { name := "editConverges", fn := fun _ => fun
  | [d1, d2, d3] => { results := [.lit (.bool true)], args := [d1, d2, d3] }
  | _ => none }
def editConvergesRow : OpenClaim := { program := "ytpijooajbgeejaa", sum := "49b2288830a95d06abadf922ce7a98a79fd62fc0273013f48567f40247ea318e", func := "canticle/canticlelaw27.EditConverges", spec := "editConverges", apart := false }
def EditConvergesSaid : Prop := editConvergesRow.holds Try.pinned (OpenSpec.ofChange editConvergesSpec)

/-- ITS FALSE NEIGHBOUR: 'it returns false'. Refute it at one input. -/
def editConvergesWrong : ChangeSpec := { name := "editConverges", fn := fun _ => fun
  | [d1, d2, d3] => { results := [.lit (.bool false)], args := [d1, d2, d3] }
  | _ => none }
def EditConvergesWrongFalsely : Prop := editConvergesRow.holds Try.pinned (OpenSpec.ofChange editConvergesWrong)

/- THE SECOND FORM. 'bulk': how many values and letters a reading holds, each counted each time it is reached (what is shared counts as often as it is met; a slice's spare places count too). A statement '..UptoSaid' is the law's where the arguments, and the package variables that the reading takes, are together of bulk at most 1048576: NARROWER than '..Said'. Prove '..Said' where nothing that the law and all that it calls make is longer than what came in: it says more and counts as full. Else prove '..UptoSaid'. A law counts once. -/
mutual
def uptoBulk {H : Type} : DataW H → Nat
  | .lit (.string bytes) => bytes.length + 1
  | .lit _ => 1
  | .nil => 1
  | .ptr d => uptoBulk d + 1
  | .slice elems spare => uptoBulkAll elems + uptoBulkAll spare + 1
  | .agg parts => uptoBulkAll parts + 1
  | .iface _ d => uptoBulk d + 1
  | .map entries => uptoBulkEntries entries + 1
  | .held _ => 1
def uptoBulkAll {H : Type} : List (DataW H) → Nat
  | [] => 0
  | d :: r => uptoBulk d + uptoBulkAll r
def uptoBulkEntries {H : Type} : List (Lit × DataW H) → Nat
  | [] => 0
  | x :: r => uptoBulkEntry x + uptoBulkEntries r
def uptoBulkEntry {H : Type} : Lit × DataW H → Nat
  | (.string bytes, d) => bytes.length + uptoBulk d + 1
  | (_, d) => uptoBulk d + 1
 end
def uptoSmall : (H : Type) → List (DataW H) → Bool := fun _ ds => decide (uptoBulkAll ds ≤ 1048576)
def OpenSpec.upto (s : _root_.Go.ChangeSpec) : _root_.Go.OpenSpec := { _root_.Go.OpenSpec.ofChange s with cond := some uptoSmall }

/-- 'canticlelaw27.EditComposes', WHERE WHAT IT READS IS OF BULK AT MOST 1048576: true; the input reads as it did. -/
def editComposesUptoRow : OpenClaim := { program := "ytpijooajbgeejaa", sum := "49b2288830a95d06abadf922ce7a98a79fd62fc0273013f48567f40247ea318e", func := "canticle/canticlelaw27.EditComposes", spec := "editComposes", apart := false, narrowed := true }
def EditComposesUptoSaid : Prop := editComposesUptoRow.holds Try.pinned (OpenSpec.upto editComposesSpec)

/-- 'canticlelaw27.EditCarries', WHERE WHAT IT READS IS OF BULK AT MOST 1048576: true; the input reads as it did. -/
def editCarriesUptoRow : OpenClaim := { program := "ytpijooajbgeejaa", sum := "49b2288830a95d06abadf922ce7a98a79fd62fc0273013f48567f40247ea318e", func := "canticle/canticlelaw27.EditCarries", spec := "editCarries", apart := false, narrowed := true }
def EditCarriesUptoSaid : Prop := editCarriesUptoRow.holds Try.pinned (OpenSpec.upto editCarriesSpec)

/-- 'canticlelaw27.EditConverges', WHERE WHAT IT READS IS OF BULK AT MOST 1048576: true; the input reads as it did. -/
def editConvergesUptoRow : OpenClaim := { program := "ytpijooajbgeejaa", sum := "49b2288830a95d06abadf922ce7a98a79fd62fc0273013f48567f40247ea318e", func := "canticle/canticlelaw27.EditConverges", spec := "editConverges", apart := false, narrowed := true }
def EditConvergesUptoSaid : Prop := editConvergesUptoRow.holds Try.pinned (OpenSpec.upto editConvergesSpec)

end Rows
end Go.Proofs.Ytpijooajbgeejaa
