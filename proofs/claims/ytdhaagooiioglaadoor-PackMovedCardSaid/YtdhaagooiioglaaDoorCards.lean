/-
  DERIVED. GIVEN WITH THE SEED: THE CARDS: each row of YtdhaagooiioglaaDoorRows.lean that lists a variable, with what it lists TIED to the program's text (the seventh form; the later family's looks); each row that meets fmt, with fmt's text TOLD by the authors' own Lean function (tested against real Go, not proved from fmt's source: count such statements apart). THE CARD IS WHAT COUNTS. Prove the row's statement (the work); the ties are given (YtdhaagooiioglaaDoorTie.lean); close each card by the builder's one call (the guide's Derived/Test/ToyasCard.lean, 'card_holds'). Laid BY PROGRAM, IN A SANDBOX (cutbox-door.mjs). By AI agents, Wed Nov 11 2026. No macro, syntax, notation, axiom, sorry.
-/
import Derived.Test.YtdhaagooiioglaaDoorRows
import GoSem.ClaimSeven
namespace Go.Proofs.YtdhaagooiioglaaDoor
namespace Rows

/-- THE TIED CARD OF 'rabbetlaw8.PackAll'. -/
def packAllCard : Claim7 := { stood := { row := packAllRow, standIns := [], harness := (true, "bde018e7dcd029fe37c149958e8190b9697e94201f5c7103c24ab7abb0a659f1"), looks := true }, kinds := [], alts := [], laidByText := true, laidKinds := [.sentinel, .sentinel, .sentinel, .sentinel, .sentinel, .sentinel], laidTests := true, laidLooks := .later }
def PackAllCardSaid : Prop := Claim7.holds Tryd.pinned (.plain (OpenSpec.ofChange packAllSpec)) packAllCard

/-- THE TIED CARD OF 'rabbetlaw8.PackBack'. -/
def packBackCard : Claim7 := { stood := { row := packBackRow, standIns := [], harness := (true, "bde018e7dcd029fe37c149958e8190b9697e94201f5c7103c24ab7abb0a659f1"), looks := true }, kinds := [], alts := [], laidByText := true, laidKinds := [.sentinel, .sentinel, .sentinel, .sentinel, .sentinel, .sentinel], laidTests := true, laidLooks := .later }
def PackBackCardSaid : Prop := Claim7.holds Tryd.pinned (.plain (OpenSpec.ofChange packBackSpec)) packBackCard

/-- THE TIED CARD OF 'rabbetlaw8.PackTurned'. -/
def packTurnedCard : Claim7 := { stood := { row := packTurnedRow, standIns := [], harness := (true, "bde018e7dcd029fe37c149958e8190b9697e94201f5c7103c24ab7abb0a659f1"), looks := true }, kinds := [], alts := [], laidByText := true, laidKinds := [.sentinel, .sentinel, .sentinel, .sentinel, .sentinel, .sentinel], laidTests := true, laidLooks := .later }
def PackTurnedCardSaid : Prop := Claim7.holds Tryd.pinned (.plain (OpenSpec.ofChange packTurnedSpec)) packTurnedCard

/-- THE TIED CARD OF 'rabbetlaw8.PackForms'. -/
def packFormsCard : Claim7 := { stood := { row := packFormsRow, standIns := [], harness := (true, "bde018e7dcd029fe37c149958e8190b9697e94201f5c7103c24ab7abb0a659f1"), looks := true }, kinds := [], alts := [], laidByText := true, laidKinds := [.sentinel, .sentinel, .sentinel, .sentinel, .sentinel, .sentinel], laidTests := true, laidLooks := .later }
def PackFormsCardSaid : Prop := Claim7.holds Tryd.pinned (.plain (OpenSpec.ofChange packFormsSpec)) packFormsCard

/-- THE TIED CARD OF 'rabbetlaw8.PackMoved'. -/
def packMovedCard : Claim7 := { stood := { row := packMovedRow, standIns := [], harness := (true, "bde018e7dcd029fe37c149958e8190b9697e94201f5c7103c24ab7abb0a659f1"), looks := true }, kinds := [], alts := [], laidByText := true, laidKinds := [.sentinel, .sentinel, .sentinel, .sentinel, .sentinel, .sentinel], laidTests := true, laidLooks := .later }
def PackMovedCardSaid : Prop := Claim7.holds Tryd.pinned (.plain (OpenSpec.ofChange packMovedSpec)) packMovedCard

/-- THE TIED CARD OF 'rabbetlaw9.DeltaAll'. -/
def deltaAllCard : Claim7 := { stood := { row := deltaAllRow, standIns := [], harness := (true, "bde018e7dcd029fe37c149958e8190b9697e94201f5c7103c24ab7abb0a659f1"), looks := true }, kinds := [], alts := [], laidByText := true, laidKinds := [.sentinel, .sentinel, .sentinel, .sentinel, .sentinel, .sentinel], laidTests := true, laidLooks := .later }
def DeltaAllCardSaid : Prop := Claim7.holds Tryd.pinned (.plain (OpenSpec.ofChange deltaAllSpec)) deltaAllCard

/-- THE TIED CARD OF 'rabbetlaw9.DeltaBack'. -/
def deltaBackCard : Claim7 := { stood := { row := deltaBackRow, standIns := [], harness := (true, "bde018e7dcd029fe37c149958e8190b9697e94201f5c7103c24ab7abb0a659f1"), looks := true }, kinds := [], alts := [], laidByText := true, laidKinds := [.sentinel, .sentinel, .sentinel, .sentinel, .sentinel, .sentinel], laidTests := true, laidLooks := .later }
def DeltaBackCardSaid : Prop := Claim7.holds Tryd.pinned (.plain (OpenSpec.ofChange deltaBackSpec)) deltaBackCard

/-- THE TIED CARD OF 'rabbetlaw9.DeltaTurned'. -/
def deltaTurnedCard : Claim7 := { stood := { row := deltaTurnedRow, standIns := [], harness := (true, "bde018e7dcd029fe37c149958e8190b9697e94201f5c7103c24ab7abb0a659f1"), looks := true }, kinds := [], alts := [], laidByText := true, laidKinds := [.sentinel, .sentinel, .sentinel, .sentinel, .sentinel, .sentinel], laidTests := true, laidLooks := .later }
def DeltaTurnedCardSaid : Prop := Claim7.holds Tryd.pinned (.plain (OpenSpec.ofChange deltaTurnedSpec)) deltaTurnedCard

/-- THE TIED CARD OF 'rabbetlaw9.DeltaForms'. -/
def deltaFormsCard : Claim7 := { stood := { row := deltaFormsRow, standIns := [], harness := (true, "bde018e7dcd029fe37c149958e8190b9697e94201f5c7103c24ab7abb0a659f1"), looks := true }, kinds := [], alts := [], laidByText := true, laidKinds := [.sentinel, .sentinel, .sentinel, .sentinel, .sentinel, .sentinel], laidTests := true, laidLooks := .later }
def DeltaFormsCardSaid : Prop := Claim7.holds Tryd.pinned (.plain (OpenSpec.ofChange deltaFormsSpec)) deltaFormsCard

/-- THE TIED CARD OF 'rabbetlaw9.DeltaEven'. -/
def deltaEvenCard : Claim7 := { stood := { row := deltaEvenRow, standIns := [], harness := (true, "bde018e7dcd029fe37c149958e8190b9697e94201f5c7103c24ab7abb0a659f1"), looks := true }, kinds := [], alts := [], laidByText := true, laidKinds := [.sentinel, .sentinel, .sentinel, .sentinel, .sentinel, .sentinel], laidTests := true, laidLooks := .later }
def DeltaEvenCardSaid : Prop := Claim7.holds Tryd.pinned (.plain (OpenSpec.ofChange deltaEvenSpec)) deltaEvenCard

/-- THE SECOND FORM's CARD OF 'rabbetlaw8.PackAll'. -/
def packAllUptoCard : Claim7 := { stood := { row := packAllUptoRow, standIns := [], harness := (true, "bde018e7dcd029fe37c149958e8190b9697e94201f5c7103c24ab7abb0a659f1"), looks := true }, kinds := [], alts := [], laidByText := true, laidKinds := [.sentinel, .sentinel, .sentinel, .sentinel, .sentinel, .sentinel], laidTests := true, laidLooks := .later }
def PackAllUptoCardSaid : Prop := Claim7.holds Tryd.pinned (.plain (OpenSpec.upto packAllSpec)) packAllUptoCard

/-- THE SECOND FORM's CARD OF 'rabbetlaw8.PackBack'. -/
def packBackUptoCard : Claim7 := { stood := { row := packBackUptoRow, standIns := [], harness := (true, "bde018e7dcd029fe37c149958e8190b9697e94201f5c7103c24ab7abb0a659f1"), looks := true }, kinds := [], alts := [], laidByText := true, laidKinds := [.sentinel, .sentinel, .sentinel, .sentinel, .sentinel, .sentinel], laidTests := true, laidLooks := .later }
def PackBackUptoCardSaid : Prop := Claim7.holds Tryd.pinned (.plain (OpenSpec.upto packBackSpec)) packBackUptoCard

/-- THE SECOND FORM's CARD OF 'rabbetlaw8.PackTurned'. -/
def packTurnedUptoCard : Claim7 := { stood := { row := packTurnedUptoRow, standIns := [], harness := (true, "bde018e7dcd029fe37c149958e8190b9697e94201f5c7103c24ab7abb0a659f1"), looks := true }, kinds := [], alts := [], laidByText := true, laidKinds := [.sentinel, .sentinel, .sentinel, .sentinel, .sentinel, .sentinel], laidTests := true, laidLooks := .later }
def PackTurnedUptoCardSaid : Prop := Claim7.holds Tryd.pinned (.plain (OpenSpec.upto packTurnedSpec)) packTurnedUptoCard

/-- THE SECOND FORM's CARD OF 'rabbetlaw8.PackForms'. -/
def packFormsUptoCard : Claim7 := { stood := { row := packFormsUptoRow, standIns := [], harness := (true, "bde018e7dcd029fe37c149958e8190b9697e94201f5c7103c24ab7abb0a659f1"), looks := true }, kinds := [], alts := [], laidByText := true, laidKinds := [.sentinel, .sentinel, .sentinel, .sentinel, .sentinel, .sentinel], laidTests := true, laidLooks := .later }
def PackFormsUptoCardSaid : Prop := Claim7.holds Tryd.pinned (.plain (OpenSpec.upto packFormsSpec)) packFormsUptoCard

/-- THE SECOND FORM's CARD OF 'rabbetlaw8.PackMoved'. -/
def packMovedUptoCard : Claim7 := { stood := { row := packMovedUptoRow, standIns := [], harness := (true, "bde018e7dcd029fe37c149958e8190b9697e94201f5c7103c24ab7abb0a659f1"), looks := true }, kinds := [], alts := [], laidByText := true, laidKinds := [.sentinel, .sentinel, .sentinel, .sentinel, .sentinel, .sentinel], laidTests := true, laidLooks := .later }
def PackMovedUptoCardSaid : Prop := Claim7.holds Tryd.pinned (.plain (OpenSpec.upto packMovedSpec)) packMovedUptoCard

/-- THE SECOND FORM's CARD OF 'rabbetlaw9.DeltaAll'. -/
def deltaAllUptoCard : Claim7 := { stood := { row := deltaAllUptoRow, standIns := [], harness := (true, "bde018e7dcd029fe37c149958e8190b9697e94201f5c7103c24ab7abb0a659f1"), looks := true }, kinds := [], alts := [], laidByText := true, laidKinds := [.sentinel, .sentinel, .sentinel, .sentinel, .sentinel, .sentinel], laidTests := true, laidLooks := .later }
def DeltaAllUptoCardSaid : Prop := Claim7.holds Tryd.pinned (.plain (OpenSpec.upto deltaAllSpec)) deltaAllUptoCard

/-- THE SECOND FORM's CARD OF 'rabbetlaw9.DeltaBack'. -/
def deltaBackUptoCard : Claim7 := { stood := { row := deltaBackUptoRow, standIns := [], harness := (true, "bde018e7dcd029fe37c149958e8190b9697e94201f5c7103c24ab7abb0a659f1"), looks := true }, kinds := [], alts := [], laidByText := true, laidKinds := [.sentinel, .sentinel, .sentinel, .sentinel, .sentinel, .sentinel], laidTests := true, laidLooks := .later }
def DeltaBackUptoCardSaid : Prop := Claim7.holds Tryd.pinned (.plain (OpenSpec.upto deltaBackSpec)) deltaBackUptoCard

/-- THE SECOND FORM's CARD OF 'rabbetlaw9.DeltaTurned'. -/
def deltaTurnedUptoCard : Claim7 := { stood := { row := deltaTurnedUptoRow, standIns := [], harness := (true, "bde018e7dcd029fe37c149958e8190b9697e94201f5c7103c24ab7abb0a659f1"), looks := true }, kinds := [], alts := [], laidByText := true, laidKinds := [.sentinel, .sentinel, .sentinel, .sentinel, .sentinel, .sentinel], laidTests := true, laidLooks := .later }
def DeltaTurnedUptoCardSaid : Prop := Claim7.holds Tryd.pinned (.plain (OpenSpec.upto deltaTurnedSpec)) deltaTurnedUptoCard

/-- THE SECOND FORM's CARD OF 'rabbetlaw9.DeltaForms'. -/
def deltaFormsUptoCard : Claim7 := { stood := { row := deltaFormsUptoRow, standIns := [], harness := (true, "bde018e7dcd029fe37c149958e8190b9697e94201f5c7103c24ab7abb0a659f1"), looks := true }, kinds := [], alts := [], laidByText := true, laidKinds := [.sentinel, .sentinel, .sentinel, .sentinel, .sentinel, .sentinel], laidTests := true, laidLooks := .later }
def DeltaFormsUptoCardSaid : Prop := Claim7.holds Tryd.pinned (.plain (OpenSpec.upto deltaFormsSpec)) deltaFormsUptoCard

/-- THE SECOND FORM's CARD OF 'rabbetlaw9.DeltaEven'. -/
def deltaEvenUptoCard : Claim7 := { stood := { row := deltaEvenUptoRow, standIns := [], harness := (true, "bde018e7dcd029fe37c149958e8190b9697e94201f5c7103c24ab7abb0a659f1"), looks := true }, kinds := [], alts := [], laidByText := true, laidKinds := [.sentinel, .sentinel, .sentinel, .sentinel, .sentinel, .sentinel], laidTests := true, laidLooks := .later }
def DeltaEvenUptoCardSaid : Prop := Claim7.holds Tryd.pinned (.plain (OpenSpec.upto deltaEvenSpec)) deltaEvenUptoCard
end Rows
end Go.Proofs.YtdhaagooiioglaaDoor
