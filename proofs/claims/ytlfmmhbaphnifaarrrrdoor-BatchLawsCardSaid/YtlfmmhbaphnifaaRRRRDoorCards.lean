/-
  DERIVED. GIVEN WITH THE SEED: THE CARDS: each row of YtlfmmhbaphnifaaRRRRDoorRows.lean that lists a variable, with what it lists TIED to the program's text (the seventh form; the later family's looks); each row that meets fmt, with fmt's text TOLD by the authors' own Lean function (tested against real Go, not proved from fmt's source: count such statements apart). THE CARD IS WHAT COUNTS. Prove the row's statement (the work); the ties are given (YtlfmmhbaphnifaaRRRRDoorTie.lean); close each card by the builder's one call (the guide's Derived/Test/ToyasCard.lean, 'card_holds'). Laid BY PROGRAM, IN A SANDBOX (cutbox-door.mjs). By AI agents, Wed Nov 11 2026. No macro, syntax, notation, axiom, sorry.
-/
import Derived.Test.YtlfmmhbaphnifaaRRRRDoorRows
import GoSem.ClaimSeven
namespace Go.Proofs.YtlfmmhbaphnifaaRRRRDoor
namespace Rows

/-- THE TIED CARD OF 'rabbetlaw12.BatchLaws'. -/
def batchLawsCard : Claim7 := { stood := { row := batchLawsRow, standIns := [], harness := (true, "7b58fe3525fffdd4760b93f8eb811f8f6c0aed3047ab6b220e0a5bc5274c7fc3"), looks := true }, kinds := [], alts := [], laidByText := true, laidKinds := [.handle, .sentinel], laidTests := true, laidLooks := .later }
def BatchLawsCardSaid : Prop := Claim7.holds Tryd.pinned (.plain (OpenSpec.ofChange batchLawsSpec)) batchLawsCard

/-- THE TIED CARD OF 'rabbetlaw23.PredAll'. -/
def predAllCard : Claim7 := { stood := { row := predAllRow, standIns := [], harness := (true, "7b58fe3525fffdd4760b93f8eb811f8f6c0aed3047ab6b220e0a5bc5274c7fc3"), looks := true }, kinds := [], alts := [], laidByText := true, laidKinds := [.handle, .sentinel, .sentinel, .sentinel], laidTests := true, laidLooks := .later }
def PredAllCardSaid : Prop := Claim7.holds Tryd.pinned (.plain (OpenSpec.ofChange predAllSpec)) predAllCard

/-- THE SECOND FORM's CARD OF 'rabbetlaw12.BatchLaws'. -/
def batchLawsUptoCard : Claim7 := { stood := { row := batchLawsUptoRow, standIns := [], harness := (true, "7b58fe3525fffdd4760b93f8eb811f8f6c0aed3047ab6b220e0a5bc5274c7fc3"), looks := true }, kinds := [], alts := [], laidByText := true, laidKinds := [.handle, .sentinel], laidTests := true, laidLooks := .later }
def BatchLawsUptoCardSaid : Prop := Claim7.holds Tryd.pinned (.plain (OpenSpec.upto batchLawsSpec)) batchLawsUptoCard

/-- THE SECOND FORM's CARD OF 'rabbetlaw23.PredAll'. -/
def predAllUptoCard : Claim7 := { stood := { row := predAllUptoRow, standIns := [], harness := (true, "7b58fe3525fffdd4760b93f8eb811f8f6c0aed3047ab6b220e0a5bc5274c7fc3"), looks := true }, kinds := [], alts := [], laidByText := true, laidKinds := [.handle, .sentinel, .sentinel, .sentinel], laidTests := true, laidLooks := .later }
def PredAllUptoCardSaid : Prop := Claim7.holds Tryd.pinned (.plain (OpenSpec.upto predAllSpec)) predAllUptoCard
end Rows
end Go.Proofs.YtlfmmhbaphnifaaRRRRDoor
