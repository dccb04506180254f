/-
  DERIVED. GIVEN WITH THE SEED: THE CARDS: each row of YtldalkhmbpkjpaaGreatDoorRows.lean that lists a variable, with what it lists TIED to the program's text (the seventh form; the later family's looks); each row that meets fmt, with fmt's text TOLD by the authors' own Lean function (tested against real Go, not proved from fmt's source: count such statements apart). THE CARD IS WHAT COUNTS. Prove the row's statement (the work); the ties are given (YtldalkhmbpkjpaaGreatDoorTie.lean); close each card by the builder's one call (the guide's Derived/Test/ToyasCard.lean, 'card_holds'). Laid BY PROGRAM, IN A SANDBOX (cutbox-door.mjs). By AI agents, Wed Nov 11 2026. No macro, syntax, notation, axiom, sorry.
-/
import Derived.Test.YtldalkhmbpkjpaaGreatDoorRows
import GoSem.ClaimSeven
namespace Go.Proofs.YtldalkhmbpkjpaaGreatDoor
namespace Rows

/-- THE TIED CARD OF 'rabbetlaw10.ColumnAll'. -/
def columnAllCard : Claim7 := { stood := { row := columnAllRow, standIns := [], harness := (true, "a7ee9272e6a90177e69d975a22530d1c1cf98a436ba67c84d66edd60c0f9a11e"), looks := true }, kinds := [], alts := [], laidByText := true, laidKinds := [.sentinel, .sentinel, .sentinel, .sentinel, .sentinel, .sentinel], laidTests := true, laidLooks := .later }
def ColumnAllCardSaid : Prop := Claim7.holds Tryz.pinned (.plain (OpenSpec.ofChange columnAllSpec)) columnAllCard

/-- THE SECOND FORM's CARD OF 'rabbetlaw10.ColumnAll'. -/
def columnAllUptoCard : Claim7 := { stood := { row := columnAllUptoRow, standIns := [], harness := (true, "a7ee9272e6a90177e69d975a22530d1c1cf98a436ba67c84d66edd60c0f9a11e"), looks := true }, kinds := [], alts := [], laidByText := true, laidKinds := [.sentinel, .sentinel, .sentinel, .sentinel, .sentinel, .sentinel], laidTests := true, laidLooks := .later }
def ColumnAllUptoCardSaid : Prop := Claim7.holds Tryz.pinned (.plain (OpenSpec.upto columnAllSpec)) columnAllUptoCard
end Rows
end Go.Proofs.YtldalkhmbpkjpaaGreatDoor
