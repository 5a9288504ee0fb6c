/-
  DERIVED. GIVEN WITH THE SEED: THE CARDS: each row of YtjccoiephdopkaaDoorRows.lean that lists a variable, with what it lists TIED to the program's text (the seventh form; the later family's looks); each row that meets fmt, with fmt's text TOLD by the authors' own Lean function (tested against real Go, not proved from fmt's source: count such statements apart). THE CARD IS WHAT COUNTS. Prove the row's statement (the work); the ties are given (YtjccoiephdopkaaDoorTie.lean); close each card by the builder's one call (the guide's Derived/Test/ToyasCard.lean, 'card_holds'). Laid BY PROGRAM, IN A SANDBOX (cutbox-door.mjs). By AI agents, Wed Nov 11 2026. No macro, syntax, notation, axiom, sorry.
-/
import Derived.Test.YtjccoiephdopkaaDoorRows
import GoSem.ClaimSeven
namespace Go.Proofs.YtjccoiephdopkaaDoor
namespace Rows

/-- THE TIED CARD OF 'canticlelaw27.EditPlain'. -/
def editPlainCard : Claim7 := { stood := { row := editPlainRow, standIns := [], harness := (true, "448b6d88652bddbd318f1c2e456014ddefafa8bf74ecc6fa27170a147a5bc666"), looks := false }, kinds := [], alts := [], laidByText := true, laidKinds := [.data, .data, .data], laidTests := true, laidLooks := .later }
def EditPlainCardSaid : Prop := Claim7.holds Tryd.pinned (.plain (OpenSpec.ofChange editPlainSpec)) editPlainCard

/-- THE TIED CARD OF 'canticlelaw27.EditReads'. -/
def editReadsCard : Claim7 := { stood := { row := editReadsRow, standIns := [], harness := (true, "448b6d88652bddbd318f1c2e456014ddefafa8bf74ecc6fa27170a147a5bc666"), looks := false }, kinds := [], alts := [], laidByText := true, laidKinds := [.data, .data, .data], laidTests := true, laidLooks := .later }
def EditReadsCardSaid : Prop := Claim7.holds Tryd.pinned (.plain (OpenSpec.ofChange editReadsSpec)) editReadsCard

/-- THE TIED CARD OF 'canticlelaw27.EditNames'. -/
def editNamesCard : Claim7 := { stood := { row := editNamesRow, standIns := [], harness := (true, "448b6d88652bddbd318f1c2e456014ddefafa8bf74ecc6fa27170a147a5bc666"), looks := false }, kinds := [], alts := [], laidByText := true, laidKinds := [.data, .data, .data], laidTests := true, laidLooks := .later }
def EditNamesCardSaid : Prop := Claim7.holds Tryd.pinned (.plain (OpenSpec.ofChange editNamesSpec)) editNamesCard

/-- THE SECOND FORM's CARD OF 'canticlelaw27.EditPlain'. -/
def editPlainUptoCard : Claim7 := { stood := { row := editPlainUptoRow, standIns := [], harness := (true, "448b6d88652bddbd318f1c2e456014ddefafa8bf74ecc6fa27170a147a5bc666"), looks := false }, kinds := [], alts := [], laidByText := true, laidKinds := [.data, .data, .data], laidTests := true, laidLooks := .later }
def EditPlainUptoCardSaid : Prop := Claim7.holds Tryd.pinned (.plain (OpenSpec.upto editPlainSpec)) editPlainUptoCard

/-- THE SECOND FORM's CARD OF 'canticlelaw27.EditReads'. -/
def editReadsUptoCard : Claim7 := { stood := { row := editReadsUptoRow, standIns := [], harness := (true, "448b6d88652bddbd318f1c2e456014ddefafa8bf74ecc6fa27170a147a5bc666"), looks := false }, kinds := [], alts := [], laidByText := true, laidKinds := [.data, .data, .data], laidTests := true, laidLooks := .later }
def EditReadsUptoCardSaid : Prop := Claim7.holds Tryd.pinned (.plain (OpenSpec.upto editReadsSpec)) editReadsUptoCard

/-- THE SECOND FORM's CARD OF 'canticlelaw27.EditNames'. -/
def editNamesUptoCard : Claim7 := { stood := { row := editNamesUptoRow, standIns := [], harness := (true, "448b6d88652bddbd318f1c2e456014ddefafa8bf74ecc6fa27170a147a5bc666"), looks := false }, kinds := [], alts := [], laidByText := true, laidKinds := [.data, .data, .data], laidTests := true, laidLooks := .later }
def EditNamesUptoCardSaid : Prop := Claim7.holds Tryd.pinned (.plain (OpenSpec.upto editNamesSpec)) editNamesUptoCard
end Rows
end Go.Proofs.YtjccoiephdopkaaDoor
