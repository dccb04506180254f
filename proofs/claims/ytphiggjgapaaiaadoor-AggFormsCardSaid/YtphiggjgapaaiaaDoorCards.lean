/-
  DERIVED. GIVEN WITH THE SEED: THE CARDS: each row of YtphiggjgapaaiaaDoorRows.lean that lists a variable, with what it lists TIED to the program's text (the seventh form; the later family's looks); each row that meets fmt, with fmt's text TOLD by the authors' own Lean function (tested against real Go, not proved from fmt's source: count such statements apart). THE CARD IS WHAT COUNTS. Prove the row's statement (the work); the ties are given (YtphiggjgapaaiaaDoorTie.lean); close each card by the builder's one call (the guide's Derived/Test/ToyasCard.lean, 'card_holds'). Laid BY PROGRAM, IN A SANDBOX (cutbox-door.mjs). By AI agents, Wed Nov 11 2026. No macro, syntax, notation, axiom, sorry.
-/
import Derived.Test.YtphiggjgapaaiaaDoorRows
import GoSem.ClaimSeven
namespace Go.Proofs.YtphiggjgapaaiaaDoor
namespace Rows

/-- THE TIED CARD OF 'rabbetlaw16.ChangeJoins'. -/
def changeJoinsCard : Claim7 := { stood := { row := changeJoinsRow, standIns := [], harness := (true, "c06ea02efa3c043790323242054d4de5aa88eaa5058ebe7205a746214ccb45ed"), looks := true }, kinds := [], alts := [], laidByText := true, laidKinds := [.sentinel, .sentinel, .sentinel], laidTests := true, laidLooks := .later }
def ChangeJoinsCardSaid : Prop := Claim7.holds Tryd.pinned (.plain (OpenSpec.ofChange changeJoinsSpec)) changeJoinsCard

/-- THE TIED CARD OF 'rabbetlaw16.ChangeForms'. -/
def changeFormsCard : Claim7 := { stood := { row := changeFormsRow, standIns := [], harness := (true, "c06ea02efa3c043790323242054d4de5aa88eaa5058ebe7205a746214ccb45ed"), looks := true }, kinds := [], alts := [], laidByText := true, laidKinds := [.sentinel, .sentinel, .sentinel], laidTests := true, laidLooks := .later }
def ChangeFormsCardSaid : Prop := Claim7.holds Tryd.pinned (.plain (OpenSpec.ofChange changeFormsSpec)) changeFormsCard

/-- THE TIED CARD OF 'rabbetlaw24.AggOver'. -/
def aggOverCard : Claim7 := { stood := { row := aggOverRow, standIns := [], harness := (true, "c06ea02efa3c043790323242054d4de5aa88eaa5058ebe7205a746214ccb45ed"), looks := true }, kinds := [], alts := [], laidByText := true, laidKinds := [.sentinel, .sentinel, .sentinel], laidTests := true, laidLooks := .later }
def AggOverCardSaid : Prop := Claim7.holds Tryd.pinned (.plain (OpenSpec.ofChange aggOverSpec)) aggOverCard

/-- THE TIED CARD OF 'rabbetlaw24.AggForms'. -/
def aggFormsCard : Claim7 := { stood := { row := aggFormsRow, standIns := [], harness := (true, "c06ea02efa3c043790323242054d4de5aa88eaa5058ebe7205a746214ccb45ed"), looks := true }, kinds := [], alts := [], laidByText := true, laidKinds := [.sentinel, .sentinel, .sentinel], laidTests := true, laidLooks := .later }
def AggFormsCardSaid : Prop := Claim7.holds Tryd.pinned (.plain (OpenSpec.ofChange aggFormsSpec)) aggFormsCard

/-- THE SECOND FORM's CARD OF 'rabbetlaw16.ChangeJoins'. -/
def changeJoinsUptoCard : Claim7 := { stood := { row := changeJoinsUptoRow, standIns := [], harness := (true, "c06ea02efa3c043790323242054d4de5aa88eaa5058ebe7205a746214ccb45ed"), looks := true }, kinds := [], alts := [], laidByText := true, laidKinds := [.sentinel, .sentinel, .sentinel], laidTests := true, laidLooks := .later }
def ChangeJoinsUptoCardSaid : Prop := Claim7.holds Tryd.pinned (.plain (OpenSpec.upto changeJoinsSpec)) changeJoinsUptoCard

/-- THE SECOND FORM's CARD OF 'rabbetlaw16.ChangeForms'. -/
def changeFormsUptoCard : Claim7 := { stood := { row := changeFormsUptoRow, standIns := [], harness := (true, "c06ea02efa3c043790323242054d4de5aa88eaa5058ebe7205a746214ccb45ed"), looks := true }, kinds := [], alts := [], laidByText := true, laidKinds := [.sentinel, .sentinel, .sentinel], laidTests := true, laidLooks := .later }
def ChangeFormsUptoCardSaid : Prop := Claim7.holds Tryd.pinned (.plain (OpenSpec.upto changeFormsSpec)) changeFormsUptoCard

/-- THE SECOND FORM's CARD OF 'rabbetlaw24.AggOver'. -/
def aggOverUptoCard : Claim7 := { stood := { row := aggOverUptoRow, standIns := [], harness := (true, "c06ea02efa3c043790323242054d4de5aa88eaa5058ebe7205a746214ccb45ed"), looks := true }, kinds := [], alts := [], laidByText := true, laidKinds := [.sentinel, .sentinel, .sentinel], laidTests := true, laidLooks := .later }
def AggOverUptoCardSaid : Prop := Claim7.holds Tryd.pinned (.plain (OpenSpec.upto aggOverSpec)) aggOverUptoCard

/-- THE SECOND FORM's CARD OF 'rabbetlaw24.AggForms'. -/
def aggFormsUptoCard : Claim7 := { stood := { row := aggFormsUptoRow, standIns := [], harness := (true, "c06ea02efa3c043790323242054d4de5aa88eaa5058ebe7205a746214ccb45ed"), looks := true }, kinds := [], alts := [], laidByText := true, laidKinds := [.sentinel, .sentinel, .sentinel], laidTests := true, laidLooks := .later }
def AggFormsUptoCardSaid : Prop := Claim7.holds Tryd.pinned (.plain (OpenSpec.upto aggFormsSpec)) aggFormsUptoCard
end Rows
end Go.Proofs.YtphiggjgapaaiaaDoor
