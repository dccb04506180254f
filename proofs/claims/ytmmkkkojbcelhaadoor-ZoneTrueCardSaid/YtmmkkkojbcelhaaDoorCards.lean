/-
  DERIVED. GIVEN WITH THE SEED: THE CARDS: each row of YtmmkkkojbcelhaaDoorRows.lean that lists a variable, with what it lists TIED to the program's text (the seventh form; the later family's looks); each row that meets fmt, with fmt's text TOLD by the authors' own Lean function (tested against real Go, not proved from fmt's source: count such statements apart). THE CARD IS WHAT COUNTS. Prove the row's statement (the work); the ties are given (YtmmkkkojbcelhaaDoorTie.lean); close each card by the builder's one call (the guide's Derived/Test/ToyasCard.lean, 'card_holds'). Laid BY PROGRAM, IN A SANDBOX (cutbox-door.mjs). By AI agents, Wed Nov 11 2026. No macro, syntax, notation, axiom, sorry.
-/
import Derived.Test.YtmmkkkojbcelhaaDoorRows
import GoSem.ClaimSeven
namespace Go.Proofs.YtmmkkkojbcelhaaDoor
namespace Rows

/-- THE TIED CARD OF 'rabbetlaw11.ZoneTrue'. -/
def zoneTrueCard : Claim7 := { stood := { row := zoneTrueRow, standIns := [], harness := (true, "089bc8237e93d402df28fe70272c0a014d5054bcba86134bcf9b3210c6f71e20"), looks := true }, kinds := [], alts := [], laidByText := true, laidKinds := [.sentinel, .sentinel, .sentinel, .sentinel, .sentinel], laidTests := true, laidLooks := .later }
def ZoneTrueCardSaid : Prop := Claim7.holds Tryd.pinned (.plain (OpenSpec.ofChange zoneTrueSpec)) zoneTrueCard

/-- THE TIED CARD OF 'rabbetlaw11.ZoneParts'. -/
def zonePartsCard : Claim7 := { stood := { row := zonePartsRow, standIns := [], harness := (true, "089bc8237e93d402df28fe70272c0a014d5054bcba86134bcf9b3210c6f71e20"), looks := true }, kinds := [], alts := [], laidByText := true, laidKinds := [.sentinel, .sentinel, .sentinel, .sentinel, .sentinel], laidTests := true, laidLooks := .later }
def ZonePartsCardSaid : Prop := Claim7.holds Tryd.pinned (.plain (OpenSpec.ofChange zonePartsSpec)) zonePartsCard

/-- THE TIED CARD OF 'rabbetlaw11.ZoneForms'. -/
def zoneFormsCard : Claim7 := { stood := { row := zoneFormsRow, standIns := [], harness := (true, "089bc8237e93d402df28fe70272c0a014d5054bcba86134bcf9b3210c6f71e20"), looks := true }, kinds := [], alts := [], laidByText := true, laidKinds := [.sentinel, .sentinel, .sentinel, .sentinel, .sentinel], laidTests := true, laidLooks := .later }
def ZoneFormsCardSaid : Prop := Claim7.holds Tryd.pinned (.plain (OpenSpec.ofChange zoneFormsSpec)) zoneFormsCard

/-- THE TIED CARD OF 'rabbetlaw12.BatchLaws'. -/
def batchLawsCard : Claim7 := { stood := { row := batchLawsRow, standIns := [], harness := (true, "089bc8237e93d402df28fe70272c0a014d5054bcba86134bcf9b3210c6f71e20"), looks := true }, kinds := [], alts := [], laidByText := true, laidKinds := [.handle, .sentinel], laidTests := true, laidLooks := .later }
def BatchLawsCardSaid : Prop := Claim7.holds Tryd.pinned (.plain (OpenSpec.ofChange batchLawsSpec)) batchLawsCard

/-- THE SECOND FORM's CARD OF 'rabbetlaw11.ZoneTrue'. -/
def zoneTrueUptoCard : Claim7 := { stood := { row := zoneTrueUptoRow, standIns := [], harness := (true, "089bc8237e93d402df28fe70272c0a014d5054bcba86134bcf9b3210c6f71e20"), looks := true }, kinds := [], alts := [], laidByText := true, laidKinds := [.sentinel, .sentinel, .sentinel, .sentinel, .sentinel], laidTests := true, laidLooks := .later }
def ZoneTrueUptoCardSaid : Prop := Claim7.holds Tryd.pinned (.plain (OpenSpec.upto zoneTrueSpec)) zoneTrueUptoCard

/-- THE SECOND FORM's CARD OF 'rabbetlaw11.ZoneParts'. -/
def zonePartsUptoCard : Claim7 := { stood := { row := zonePartsUptoRow, standIns := [], harness := (true, "089bc8237e93d402df28fe70272c0a014d5054bcba86134bcf9b3210c6f71e20"), looks := true }, kinds := [], alts := [], laidByText := true, laidKinds := [.sentinel, .sentinel, .sentinel, .sentinel, .sentinel], laidTests := true, laidLooks := .later }
def ZonePartsUptoCardSaid : Prop := Claim7.holds Tryd.pinned (.plain (OpenSpec.upto zonePartsSpec)) zonePartsUptoCard

/-- THE SECOND FORM's CARD OF 'rabbetlaw11.ZoneForms'. -/
def zoneFormsUptoCard : Claim7 := { stood := { row := zoneFormsUptoRow, standIns := [], harness := (true, "089bc8237e93d402df28fe70272c0a014d5054bcba86134bcf9b3210c6f71e20"), looks := true }, kinds := [], alts := [], laidByText := true, laidKinds := [.sentinel, .sentinel, .sentinel, .sentinel, .sentinel], laidTests := true, laidLooks := .later }
def ZoneFormsUptoCardSaid : Prop := Claim7.holds Tryd.pinned (.plain (OpenSpec.upto zoneFormsSpec)) zoneFormsUptoCard

/-- THE SECOND FORM's CARD OF 'rabbetlaw12.BatchLaws'. -/
def batchLawsUptoCard : Claim7 := { stood := { row := batchLawsUptoRow, standIns := [], harness := (true, "089bc8237e93d402df28fe70272c0a014d5054bcba86134bcf9b3210c6f71e20"), looks := true }, kinds := [], alts := [], laidByText := true, laidKinds := [.handle, .sentinel], laidTests := true, laidLooks := .later }
def BatchLawsUptoCardSaid : Prop := Claim7.holds Tryd.pinned (.plain (OpenSpec.upto batchLawsSpec)) batchLawsUptoCard
end Rows
end Go.Proofs.YtmmkkkojbcelhaaDoor
