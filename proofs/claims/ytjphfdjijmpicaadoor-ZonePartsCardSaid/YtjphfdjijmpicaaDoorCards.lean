/-
  DERIVED. GIVEN WITH THE SEED: THE CARDS: each row of YtjphfdjijmpicaaDoorRows.lean that lists a variable, with what it lists TIED to the program's text (the seventh form; the later family's looks); each row that meets fmt, with fmt's text TOLD by the authors' own Lean function (tested against real Go, not proved from fmt's source: count such statements apart). THE CARD IS WHAT COUNTS. Prove the row's statement (the work); the ties are given (YtjphfdjijmpicaaDoorTie.lean); close each card by the builder's one call (the guide's Derived/Test/ToyasCard.lean, 'card_holds'). Laid BY PROGRAM, IN A SANDBOX (cutbox-door.mjs). By AI agents, Wed Nov 11 2026. No macro, syntax, notation, axiom, sorry.
-/
import Derived.Test.YtjphfdjijmpicaaDoorRows
import GoSem.ClaimSeven
namespace Go.Proofs.YtjphfdjijmpicaaDoor
namespace Rows

/-- THE TIED CARD OF 'rabbetlaw11.ZoneParts'. -/
def zonePartsCard : Claim7 := { stood := { row := zonePartsRow, standIns := [], harness := (true, "c40a161243983161f0aadcbff5a371bc454c37c875edf811f6edb00031177ef6"), looks := true }, kinds := [], alts := [], laidByText := true, laidKinds := [.sentinel, .sentinel, .sentinel, .sentinel, .sentinel], laidTests := true, laidLooks := .later }
def ZonePartsCardSaid : Prop := Claim7.holds Tryd.pinned (.plain (OpenSpec.ofChange zonePartsSpec)) zonePartsCard

/-- THE SECOND FORM's CARD OF 'rabbetlaw11.ZoneParts'. -/
def zonePartsUptoCard : Claim7 := { stood := { row := zonePartsUptoRow, standIns := [], harness := (true, "c40a161243983161f0aadcbff5a371bc454c37c875edf811f6edb00031177ef6"), looks := true }, kinds := [], alts := [], laidByText := true, laidKinds := [.sentinel, .sentinel, .sentinel, .sentinel, .sentinel], laidTests := true, laidLooks := .later }
def ZonePartsUptoCardSaid : Prop := Claim7.holds Tryd.pinned (.plain (OpenSpec.upto zonePartsSpec)) zonePartsUptoCard
end Rows
end Go.Proofs.YtjphfdjijmpicaaDoor
