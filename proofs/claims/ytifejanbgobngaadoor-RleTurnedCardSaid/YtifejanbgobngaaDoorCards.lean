/-
  DERIVED. GIVEN WITH THE SEED: THE CARDS: each row of YtifejanbgobngaaDoorRows.lean that lists a variable, with what it lists TIED to the program's text (the seventh form; the later family's looks); each row that meets fmt, with fmt's text TOLD by the authors' own Lean function (tested against real Go, not proved from fmt's source: count such statements apart). THE CARD IS WHAT COUNTS. Prove the row's statement (the work); the ties are given (YtifejanbgobngaaDoorTie.lean); close each card by the builder's one call (the guide's Derived/Test/ToyasCard.lean, 'card_holds'). Laid BY PROGRAM, IN A SANDBOX (cutbox-door.mjs). By AI agents, Wed Nov 11 2026. No macro, syntax, notation, axiom, sorry.
-/
import Derived.Test.YtifejanbgobngaaDoorRows
import GoSem.ClaimSeven
namespace Go.Proofs.YtifejanbgobngaaDoor
namespace Rows

/-- THE TIED CARD OF 'rabbetlaw5.PlainAll'. -/
def plainAllCard : Claim7 := { stood := { row := plainAllRow, standIns := [], harness := (true, "859f3d205fe20e022dcba47d54c112b83855e6d725e0f1912f3cf840ba177953"), looks := true }, kinds := [], alts := [], laidByText := true, laidKinds := [.sentinel, .sentinel, .sentinel, .sentinel, .sentinel, .sentinel], laidTests := true, laidLooks := .later }
def PlainAllCardSaid : Prop := Claim7.holds Tryd.pinned (.plain (OpenSpec.ofChange plainAllSpec)) plainAllCard

/-- THE TIED CARD OF 'rabbetlaw5.PlainBack'. -/
def plainBackCard : Claim7 := { stood := { row := plainBackRow, standIns := [], harness := (true, "859f3d205fe20e022dcba47d54c112b83855e6d725e0f1912f3cf840ba177953"), looks := true }, kinds := [], alts := [], laidByText := true, laidKinds := [.sentinel, .sentinel, .sentinel, .sentinel, .sentinel, .sentinel], laidTests := true, laidLooks := .later }
def PlainBackCardSaid : Prop := Claim7.holds Tryd.pinned (.plain (OpenSpec.ofChange plainBackSpec)) plainBackCard

/-- THE TIED CARD OF 'rabbetlaw5.PlainTurned'. -/
def plainTurnedCard : Claim7 := { stood := { row := plainTurnedRow, standIns := [], harness := (true, "859f3d205fe20e022dcba47d54c112b83855e6d725e0f1912f3cf840ba177953"), looks := true }, kinds := [], alts := [], laidByText := true, laidKinds := [.sentinel, .sentinel, .sentinel, .sentinel, .sentinel, .sentinel], laidTests := true, laidLooks := .later }
def PlainTurnedCardSaid : Prop := Claim7.holds Tryd.pinned (.plain (OpenSpec.ofChange plainTurnedSpec)) plainTurnedCard

/-- THE TIED CARD OF 'rabbetlaw5.PlainForms'. -/
def plainFormsCard : Claim7 := { stood := { row := plainFormsRow, standIns := [], harness := (true, "859f3d205fe20e022dcba47d54c112b83855e6d725e0f1912f3cf840ba177953"), looks := true }, kinds := [], alts := [], laidByText := true, laidKinds := [.sentinel, .sentinel, .sentinel, .sentinel, .sentinel, .sentinel], laidTests := true, laidLooks := .later }
def PlainFormsCardSaid : Prop := Claim7.holds Tryd.pinned (.plain (OpenSpec.ofChange plainFormsSpec)) plainFormsCard

/-- THE TIED CARD OF 'rabbetlaw6.RleAll'. -/
def rleAllCard : Claim7 := { stood := { row := rleAllRow, standIns := [], harness := (true, "859f3d205fe20e022dcba47d54c112b83855e6d725e0f1912f3cf840ba177953"), looks := true }, kinds := [], alts := [], laidByText := true, laidKinds := [.sentinel, .sentinel, .sentinel, .sentinel, .sentinel, .sentinel], laidTests := true, laidLooks := .later }
def RleAllCardSaid : Prop := Claim7.holds Tryd.pinned (.plain (OpenSpec.ofChange rleAllSpec)) rleAllCard

/-- THE TIED CARD OF 'rabbetlaw6.RleBack'. -/
def rleBackCard : Claim7 := { stood := { row := rleBackRow, standIns := [], harness := (true, "859f3d205fe20e022dcba47d54c112b83855e6d725e0f1912f3cf840ba177953"), looks := true }, kinds := [], alts := [], laidByText := true, laidKinds := [.sentinel, .sentinel, .sentinel, .sentinel, .sentinel, .sentinel], laidTests := true, laidLooks := .later }
def RleBackCardSaid : Prop := Claim7.holds Tryd.pinned (.plain (OpenSpec.ofChange rleBackSpec)) rleBackCard

/-- THE TIED CARD OF 'rabbetlaw6.RleTurned'. -/
def rleTurnedCard : Claim7 := { stood := { row := rleTurnedRow, standIns := [], harness := (true, "859f3d205fe20e022dcba47d54c112b83855e6d725e0f1912f3cf840ba177953"), looks := true }, kinds := [], alts := [], laidByText := true, laidKinds := [.sentinel, .sentinel, .sentinel, .sentinel, .sentinel, .sentinel], laidTests := true, laidLooks := .later }
def RleTurnedCardSaid : Prop := Claim7.holds Tryd.pinned (.plain (OpenSpec.ofChange rleTurnedSpec)) rleTurnedCard

/-- THE TIED CARD OF 'rabbetlaw6.RleForms'. -/
def rleFormsCard : Claim7 := { stood := { row := rleFormsRow, standIns := [], harness := (true, "859f3d205fe20e022dcba47d54c112b83855e6d725e0f1912f3cf840ba177953"), looks := true }, kinds := [], alts := [], laidByText := true, laidKinds := [.sentinel, .sentinel, .sentinel, .sentinel, .sentinel, .sentinel], laidTests := true, laidLooks := .later }
def RleFormsCardSaid : Prop := Claim7.holds Tryd.pinned (.plain (OpenSpec.ofChange rleFormsSpec)) rleFormsCard

/-- THE TIED CARD OF 'rabbetlaw6.RleRuns'. -/
def rleRunsCard : Claim7 := { stood := { row := rleRunsRow, standIns := [], harness := (true, "859f3d205fe20e022dcba47d54c112b83855e6d725e0f1912f3cf840ba177953"), looks := true }, kinds := [], alts := [], laidByText := true, laidKinds := [.sentinel, .sentinel, .sentinel, .sentinel, .sentinel, .sentinel], laidTests := true, laidLooks := .later }
def RleRunsCardSaid : Prop := Claim7.holds Tryd.pinned (.plain (OpenSpec.ofChange rleRunsSpec)) rleRunsCard

/-- THE SECOND FORM's CARD OF 'rabbetlaw5.PlainAll'. -/
def plainAllUptoCard : Claim7 := { stood := { row := plainAllUptoRow, standIns := [], harness := (true, "859f3d205fe20e022dcba47d54c112b83855e6d725e0f1912f3cf840ba177953"), looks := true }, kinds := [], alts := [], laidByText := true, laidKinds := [.sentinel, .sentinel, .sentinel, .sentinel, .sentinel, .sentinel], laidTests := true, laidLooks := .later }
def PlainAllUptoCardSaid : Prop := Claim7.holds Tryd.pinned (.plain (OpenSpec.upto plainAllSpec)) plainAllUptoCard

/-- THE SECOND FORM's CARD OF 'rabbetlaw5.PlainBack'. -/
def plainBackUptoCard : Claim7 := { stood := { row := plainBackUptoRow, standIns := [], harness := (true, "859f3d205fe20e022dcba47d54c112b83855e6d725e0f1912f3cf840ba177953"), looks := true }, kinds := [], alts := [], laidByText := true, laidKinds := [.sentinel, .sentinel, .sentinel, .sentinel, .sentinel, .sentinel], laidTests := true, laidLooks := .later }
def PlainBackUptoCardSaid : Prop := Claim7.holds Tryd.pinned (.plain (OpenSpec.upto plainBackSpec)) plainBackUptoCard

/-- THE SECOND FORM's CARD OF 'rabbetlaw5.PlainTurned'. -/
def plainTurnedUptoCard : Claim7 := { stood := { row := plainTurnedUptoRow, standIns := [], harness := (true, "859f3d205fe20e022dcba47d54c112b83855e6d725e0f1912f3cf840ba177953"), looks := true }, kinds := [], alts := [], laidByText := true, laidKinds := [.sentinel, .sentinel, .sentinel, .sentinel, .sentinel, .sentinel], laidTests := true, laidLooks := .later }
def PlainTurnedUptoCardSaid : Prop := Claim7.holds Tryd.pinned (.plain (OpenSpec.upto plainTurnedSpec)) plainTurnedUptoCard

/-- THE SECOND FORM's CARD OF 'rabbetlaw5.PlainForms'. -/
def plainFormsUptoCard : Claim7 := { stood := { row := plainFormsUptoRow, standIns := [], harness := (true, "859f3d205fe20e022dcba47d54c112b83855e6d725e0f1912f3cf840ba177953"), looks := true }, kinds := [], alts := [], laidByText := true, laidKinds := [.sentinel, .sentinel, .sentinel, .sentinel, .sentinel, .sentinel], laidTests := true, laidLooks := .later }
def PlainFormsUptoCardSaid : Prop := Claim7.holds Tryd.pinned (.plain (OpenSpec.upto plainFormsSpec)) plainFormsUptoCard

/-- THE SECOND FORM's CARD OF 'rabbetlaw6.RleAll'. -/
def rleAllUptoCard : Claim7 := { stood := { row := rleAllUptoRow, standIns := [], harness := (true, "859f3d205fe20e022dcba47d54c112b83855e6d725e0f1912f3cf840ba177953"), looks := true }, kinds := [], alts := [], laidByText := true, laidKinds := [.sentinel, .sentinel, .sentinel, .sentinel, .sentinel, .sentinel], laidTests := true, laidLooks := .later }
def RleAllUptoCardSaid : Prop := Claim7.holds Tryd.pinned (.plain (OpenSpec.upto rleAllSpec)) rleAllUptoCard

/-- THE SECOND FORM's CARD OF 'rabbetlaw6.RleBack'. -/
def rleBackUptoCard : Claim7 := { stood := { row := rleBackUptoRow, standIns := [], harness := (true, "859f3d205fe20e022dcba47d54c112b83855e6d725e0f1912f3cf840ba177953"), looks := true }, kinds := [], alts := [], laidByText := true, laidKinds := [.sentinel, .sentinel, .sentinel, .sentinel, .sentinel, .sentinel], laidTests := true, laidLooks := .later }
def RleBackUptoCardSaid : Prop := Claim7.holds Tryd.pinned (.plain (OpenSpec.upto rleBackSpec)) rleBackUptoCard

/-- THE SECOND FORM's CARD OF 'rabbetlaw6.RleTurned'. -/
def rleTurnedUptoCard : Claim7 := { stood := { row := rleTurnedUptoRow, standIns := [], harness := (true, "859f3d205fe20e022dcba47d54c112b83855e6d725e0f1912f3cf840ba177953"), looks := true }, kinds := [], alts := [], laidByText := true, laidKinds := [.sentinel, .sentinel, .sentinel, .sentinel, .sentinel, .sentinel], laidTests := true, laidLooks := .later }
def RleTurnedUptoCardSaid : Prop := Claim7.holds Tryd.pinned (.plain (OpenSpec.upto rleTurnedSpec)) rleTurnedUptoCard

/-- THE SECOND FORM's CARD OF 'rabbetlaw6.RleForms'. -/
def rleFormsUptoCard : Claim7 := { stood := { row := rleFormsUptoRow, standIns := [], harness := (true, "859f3d205fe20e022dcba47d54c112b83855e6d725e0f1912f3cf840ba177953"), looks := true }, kinds := [], alts := [], laidByText := true, laidKinds := [.sentinel, .sentinel, .sentinel, .sentinel, .sentinel, .sentinel], laidTests := true, laidLooks := .later }
def RleFormsUptoCardSaid : Prop := Claim7.holds Tryd.pinned (.plain (OpenSpec.upto rleFormsSpec)) rleFormsUptoCard

/-- THE SECOND FORM's CARD OF 'rabbetlaw6.RleRuns'. -/
def rleRunsUptoCard : Claim7 := { stood := { row := rleRunsUptoRow, standIns := [], harness := (true, "859f3d205fe20e022dcba47d54c112b83855e6d725e0f1912f3cf840ba177953"), looks := true }, kinds := [], alts := [], laidByText := true, laidKinds := [.sentinel, .sentinel, .sentinel, .sentinel, .sentinel, .sentinel], laidTests := true, laidLooks := .later }
def RleRunsUptoCardSaid : Prop := Claim7.holds Tryd.pinned (.plain (OpenSpec.upto rleRunsSpec)) rleRunsUptoCard
end Rows
end Go.Proofs.YtifejanbgobngaaDoor
