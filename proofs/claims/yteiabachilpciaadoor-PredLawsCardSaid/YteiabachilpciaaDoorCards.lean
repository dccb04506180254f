/-
  DERIVED. GIVEN WITH THE SEED: THE CARDS: each row of YteiabachilpciaaDoorRows.lean that lists a variable, with what it lists TIED to the program's text (the seventh form; the later family's looks); each row that meets fmt, with fmt's text TOLD by the authors' own Lean function (tested against real Go, not proved from fmt's source: count such statements apart). THE CARD IS WHAT COUNTS. Prove the row's statement (the work); the ties are given (YteiabachilpciaaDoorTie.lean); close each card by the builder's one call (the guide's Derived/Test/ToyasCard.lean, 'card_holds'). Laid BY PROGRAM, IN A SANDBOX (cutbox-door.mjs). By AI agents, Wed Nov 11 2026. No macro, syntax, notation, axiom, sorry.
-/
import Derived.Test.YteiabachilpciaaDoorRows
import GoSem.ClaimSeven
namespace Go.Proofs.YteiabachilpciaaDoor
namespace Rows

/-- THE TIED CARD OF 'rabbetlaw23.PredAll'. -/
def predAllCard : Claim7 := { stood := { row := predAllRow, standIns := [], harness := (true, "1eaad253a6318d8d3b1f3f6b72f5e66716c604fd2f19ac03b3368e16bf62e6da"), looks := true }, kinds := [], alts := [], laidByText := true, laidKinds := [.handle, .sentinel, .sentinel, .sentinel], laidTests := true, laidLooks := .later }
def PredAllCardSaid : Prop := Claim7.holds Tryd.pinned (.plain (OpenSpec.ofChange predAllSpec)) predAllCard

/-- THE TIED CARD OF 'rabbetlaw23.PredLaws'. -/
def predLawsCard : Claim7 := { stood := { row := predLawsRow, standIns := [], harness := (true, "1eaad253a6318d8d3b1f3f6b72f5e66716c604fd2f19ac03b3368e16bf62e6da"), looks := true }, kinds := [], alts := [], laidByText := true, laidKinds := [.handle, .sentinel, .sentinel, .sentinel], laidTests := true, laidLooks := .later }
def PredLawsCardSaid : Prop := Claim7.holds Tryd.pinned (.plain (OpenSpec.ofChange predLawsSpec)) predLawsCard

/-- THE TIED CARD OF 'rabbetlaw23.PredForms'. -/
def predFormsCard : Claim7 := { stood := { row := predFormsRow, standIns := [], harness := (true, "1eaad253a6318d8d3b1f3f6b72f5e66716c604fd2f19ac03b3368e16bf62e6da"), looks := true }, kinds := [], alts := [], laidByText := true, laidKinds := [.handle, .sentinel, .sentinel, .sentinel], laidTests := true, laidLooks := .later }
def PredFormsCardSaid : Prop := Claim7.holds Tryd.pinned (.plain (OpenSpec.ofChange predFormsSpec)) predFormsCard

/-- THE TIED CARD OF 'rabbetlaw23.PredNulls'. -/
def predNullsCard : Claim7 := { stood := { row := predNullsRow, standIns := [], harness := (true, "1eaad253a6318d8d3b1f3f6b72f5e66716c604fd2f19ac03b3368e16bf62e6da"), looks := true }, kinds := [], alts := [], laidByText := true, laidKinds := [.handle, .sentinel, .sentinel, .sentinel], laidTests := true, laidLooks := .later }
def PredNullsCardSaid : Prop := Claim7.holds Tryd.pinned (.plain (OpenSpec.ofChange predNullsSpec)) predNullsCard

/-- THE SECOND FORM's CARD OF 'rabbetlaw23.PredAll'. -/
def predAllUptoCard : Claim7 := { stood := { row := predAllUptoRow, standIns := [], harness := (true, "1eaad253a6318d8d3b1f3f6b72f5e66716c604fd2f19ac03b3368e16bf62e6da"), looks := true }, kinds := [], alts := [], laidByText := true, laidKinds := [.handle, .sentinel, .sentinel, .sentinel], laidTests := true, laidLooks := .later }
def PredAllUptoCardSaid : Prop := Claim7.holds Tryd.pinned (.plain (OpenSpec.upto predAllSpec)) predAllUptoCard

/-- THE SECOND FORM's CARD OF 'rabbetlaw23.PredLaws'. -/
def predLawsUptoCard : Claim7 := { stood := { row := predLawsUptoRow, standIns := [], harness := (true, "1eaad253a6318d8d3b1f3f6b72f5e66716c604fd2f19ac03b3368e16bf62e6da"), looks := true }, kinds := [], alts := [], laidByText := true, laidKinds := [.handle, .sentinel, .sentinel, .sentinel], laidTests := true, laidLooks := .later }
def PredLawsUptoCardSaid : Prop := Claim7.holds Tryd.pinned (.plain (OpenSpec.upto predLawsSpec)) predLawsUptoCard

/-- THE SECOND FORM's CARD OF 'rabbetlaw23.PredForms'. -/
def predFormsUptoCard : Claim7 := { stood := { row := predFormsUptoRow, standIns := [], harness := (true, "1eaad253a6318d8d3b1f3f6b72f5e66716c604fd2f19ac03b3368e16bf62e6da"), looks := true }, kinds := [], alts := [], laidByText := true, laidKinds := [.handle, .sentinel, .sentinel, .sentinel], laidTests := true, laidLooks := .later }
def PredFormsUptoCardSaid : Prop := Claim7.holds Tryd.pinned (.plain (OpenSpec.upto predFormsSpec)) predFormsUptoCard

/-- THE SECOND FORM's CARD OF 'rabbetlaw23.PredNulls'. -/
def predNullsUptoCard : Claim7 := { stood := { row := predNullsUptoRow, standIns := [], harness := (true, "1eaad253a6318d8d3b1f3f6b72f5e66716c604fd2f19ac03b3368e16bf62e6da"), looks := true }, kinds := [], alts := [], laidByText := true, laidKinds := [.handle, .sentinel, .sentinel, .sentinel], laidTests := true, laidLooks := .later }
def PredNullsUptoCardSaid : Prop := Claim7.holds Tryd.pinned (.plain (OpenSpec.upto predNullsSpec)) predNullsUptoCard
end Rows
end Go.Proofs.YteiabachilpciaaDoor
