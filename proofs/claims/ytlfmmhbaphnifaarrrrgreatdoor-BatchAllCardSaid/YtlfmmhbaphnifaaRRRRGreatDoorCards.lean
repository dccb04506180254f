/-
  DERIVED. GIVEN WITH THE SEED: THE CARDS: each row of YtlfmmhbaphnifaaRRRRGreatDoorRows.lean that lists a variable, with what it lists TIED to the program's text (the seventh form; the later family's looks); each row that meets fmt, with fmt's text TOLD by the authors' own Lean function (tested against real Go, not proved from fmt's source: count such statements apart). THE CARD IS WHAT COUNTS. Prove the row's statement (the work); the ties are given (YtlfmmhbaphnifaaRRRRGreatDoorTie.lean); close each card by the builder's one call (the guide's Derived/Test/ToyasCard.lean, 'card_holds'). Laid BY PROGRAM, IN A SANDBOX (cutbox-door.mjs). By AI agents, Wed Nov 11 2026. No macro, syntax, notation, axiom, sorry.
-/
import Derived.Test.YtlfmmhbaphnifaaRRRRGreatDoorRows
import GoSem.ClaimSeven
namespace Go.Proofs.YtlfmmhbaphnifaaRRRRGreatDoor
namespace Rows

/-- THE TIED CARD OF 'rabbetlaw12.BatchAll'. -/
def batchAllCard : Claim7 := { stood := { row := batchAllRow, standIns := [], harness := (true, "0e68b25ec3822de915b4b57bbbb85f293049e71a7d0a52bc53c6ca6473e4bcef"), looks := true }, kinds := [], alts := [], laidByText := true, laidKinds := [.handle, .sentinel], laidTests := true, laidLooks := .later }
def BatchAllCardSaid : Prop := Claim7.holds Tryz.pinned (.plain (OpenSpec.ofChange batchAllSpec)) batchAllCard

/-- THE TIED CARD OF 'rabbetlaw12.BatchSets'. -/
def batchSetsCard : Claim7 := { stood := { row := batchSetsRow, standIns := [], harness := (true, "0e68b25ec3822de915b4b57bbbb85f293049e71a7d0a52bc53c6ca6473e4bcef"), looks := true }, kinds := [], alts := [], laidByText := true, laidKinds := [.handle, .sentinel], laidTests := true, laidLooks := .later }
def BatchSetsCardSaid : Prop := Claim7.holds Tryz.pinned (.plain (OpenSpec.ofChange batchSetsSpec)) batchSetsCard

/-- THE TIED CARD OF 'rabbetlaw12.BatchBag'. -/
def batchBagCard : Claim7 := { stood := { row := batchBagRow, standIns := [], harness := (true, "0e68b25ec3822de915b4b57bbbb85f293049e71a7d0a52bc53c6ca6473e4bcef"), looks := true }, kinds := [], alts := [], laidByText := true, laidKinds := [.handle, .sentinel], laidTests := true, laidLooks := .later }
def BatchBagCardSaid : Prop := Claim7.holds Tryz.pinned (.plain (OpenSpec.ofChange batchBagSpec)) batchBagCard

/-- THE TIED CARD OF 'rabbetlaw12.BatchTurns'. -/
def batchTurnsCard : Claim7 := { stood := { row := batchTurnsRow, standIns := [], harness := (true, "0e68b25ec3822de915b4b57bbbb85f293049e71a7d0a52bc53c6ca6473e4bcef"), looks := true }, kinds := [], alts := [], laidByText := true, laidKinds := [.handle, .sentinel], laidTests := true, laidLooks := .later }
def BatchTurnsCardSaid : Prop := Claim7.holds Tryz.pinned (.plain (OpenSpec.ofChange batchTurnsSpec)) batchTurnsCard

/-- THE SECOND FORM's CARD OF 'rabbetlaw12.BatchAll'. -/
def batchAllUptoCard : Claim7 := { stood := { row := batchAllUptoRow, standIns := [], harness := (true, "0e68b25ec3822de915b4b57bbbb85f293049e71a7d0a52bc53c6ca6473e4bcef"), looks := true }, kinds := [], alts := [], laidByText := true, laidKinds := [.handle, .sentinel], laidTests := true, laidLooks := .later }
def BatchAllUptoCardSaid : Prop := Claim7.holds Tryz.pinned (.plain (OpenSpec.upto batchAllSpec)) batchAllUptoCard

/-- THE SECOND FORM's CARD OF 'rabbetlaw12.BatchSets'. -/
def batchSetsUptoCard : Claim7 := { stood := { row := batchSetsUptoRow, standIns := [], harness := (true, "0e68b25ec3822de915b4b57bbbb85f293049e71a7d0a52bc53c6ca6473e4bcef"), looks := true }, kinds := [], alts := [], laidByText := true, laidKinds := [.handle, .sentinel], laidTests := true, laidLooks := .later }
def BatchSetsUptoCardSaid : Prop := Claim7.holds Tryz.pinned (.plain (OpenSpec.upto batchSetsSpec)) batchSetsUptoCard

/-- THE SECOND FORM's CARD OF 'rabbetlaw12.BatchBag'. -/
def batchBagUptoCard : Claim7 := { stood := { row := batchBagUptoRow, standIns := [], harness := (true, "0e68b25ec3822de915b4b57bbbb85f293049e71a7d0a52bc53c6ca6473e4bcef"), looks := true }, kinds := [], alts := [], laidByText := true, laidKinds := [.handle, .sentinel], laidTests := true, laidLooks := .later }
def BatchBagUptoCardSaid : Prop := Claim7.holds Tryz.pinned (.plain (OpenSpec.upto batchBagSpec)) batchBagUptoCard

/-- THE SECOND FORM's CARD OF 'rabbetlaw12.BatchTurns'. -/
def batchTurnsUptoCard : Claim7 := { stood := { row := batchTurnsUptoRow, standIns := [], harness := (true, "0e68b25ec3822de915b4b57bbbb85f293049e71a7d0a52bc53c6ca6473e4bcef"), looks := true }, kinds := [], alts := [], laidByText := true, laidKinds := [.handle, .sentinel], laidTests := true, laidLooks := .later }
def BatchTurnsUptoCardSaid : Prop := Claim7.holds Tryz.pinned (.plain (OpenSpec.upto batchTurnsSpec)) batchTurnsUptoCard
end Rows
end Go.Proofs.YtlfmmhbaphnifaaRRRRGreatDoor
