/-
  DERIVED. GIVEN WITH THE SEED: THE CARDS: each row of YtbmlipandjbbbabDoorRows.lean that lists a variable, with what it lists TIED to the program's text (the seventh form; the later family's looks); each row that meets fmt, with fmt's text TOLD by the authors' own Lean function (tested against real Go, not proved from fmt's source: count such statements apart). THE CARD IS WHAT COUNTS. Prove the row's statement (the work); the ties are given (YtbmlipandjbbbabDoorTie.lean); close each card by the builder's one call (the guide's Derived/Test/ToyasCard.lean, 'card_holds'). Laid BY PROGRAM, IN A SANDBOX (cutbox-door.mjs). By AI agents, Wed Nov 11 2026. No macro, syntax, notation, axiom, sorry.
-/
import Derived.Test.YtbmlipandjbbbabDoorRows
import GoSem.ClaimSeven
namespace Go.Proofs.YtbmlipandjbbbabDoor
namespace Rows

/-- THE TIED CARD OF 'rabbetlaw4.NullsAll'. -/
def nullsAllCard : Claim7 := { stood := { row := nullsAllRow, standIns := [], harness := (true, "7c7c145e9a474c30b8cdc18eb3c86d8dd96ebf22d43dd1bb8006efa7a7226d5d"), looks := true }, kinds := [], alts := [], laidByText := true, laidKinds := [.sentinel, .sentinel], laidTests := true, laidLooks := .later }
def NullsAllCardSaid : Prop := Claim7.holds Tryd.pinned (.plain (OpenSpec.ofChange nullsAllSpec)) nullsAllCard

/-- THE TIED CARD OF 'rabbetlaw4.NullsBack'. -/
def nullsBackCard : Claim7 := { stood := { row := nullsBackRow, standIns := [], harness := (true, "7c7c145e9a474c30b8cdc18eb3c86d8dd96ebf22d43dd1bb8006efa7a7226d5d"), looks := true }, kinds := [], alts := [], laidByText := true, laidKinds := [.sentinel, .sentinel], laidTests := true, laidLooks := .later }
def NullsBackCardSaid : Prop := Claim7.holds Tryd.pinned (.plain (OpenSpec.ofChange nullsBackSpec)) nullsBackCard

/-- THE TIED CARD OF 'rabbetlaw4.NullsSums'. -/
def nullsSumsCard : Claim7 := { stood := { row := nullsSumsRow, standIns := [], harness := (true, "7c7c145e9a474c30b8cdc18eb3c86d8dd96ebf22d43dd1bb8006efa7a7226d5d"), looks := true }, kinds := [], alts := [], laidByText := true, laidKinds := [.sentinel, .sentinel], laidTests := true, laidLooks := .later }
def NullsSumsCardSaid : Prop := Claim7.holds Tryd.pinned (.plain (OpenSpec.ofChange nullsSumsSpec)) nullsSumsCard

/-- THE SECOND FORM's CARD OF 'rabbetlaw4.NullsAll'. -/
def nullsAllUptoCard : Claim7 := { stood := { row := nullsAllUptoRow, standIns := [], harness := (true, "7c7c145e9a474c30b8cdc18eb3c86d8dd96ebf22d43dd1bb8006efa7a7226d5d"), looks := true }, kinds := [], alts := [], laidByText := true, laidKinds := [.sentinel, .sentinel], laidTests := true, laidLooks := .later }
def NullsAllUptoCardSaid : Prop := Claim7.holds Tryd.pinned (.plain (OpenSpec.upto nullsAllSpec)) nullsAllUptoCard

/-- THE SECOND FORM's CARD OF 'rabbetlaw4.NullsBack'. -/
def nullsBackUptoCard : Claim7 := { stood := { row := nullsBackUptoRow, standIns := [], harness := (true, "7c7c145e9a474c30b8cdc18eb3c86d8dd96ebf22d43dd1bb8006efa7a7226d5d"), looks := true }, kinds := [], alts := [], laidByText := true, laidKinds := [.sentinel, .sentinel], laidTests := true, laidLooks := .later }
def NullsBackUptoCardSaid : Prop := Claim7.holds Tryd.pinned (.plain (OpenSpec.upto nullsBackSpec)) nullsBackUptoCard

/-- THE SECOND FORM's CARD OF 'rabbetlaw4.NullsSums'. -/
def nullsSumsUptoCard : Claim7 := { stood := { row := nullsSumsUptoRow, standIns := [], harness := (true, "7c7c145e9a474c30b8cdc18eb3c86d8dd96ebf22d43dd1bb8006efa7a7226d5d"), looks := true }, kinds := [], alts := [], laidByText := true, laidKinds := [.sentinel, .sentinel], laidTests := true, laidLooks := .later }
def NullsSumsUptoCardSaid : Prop := Claim7.holds Tryd.pinned (.plain (OpenSpec.upto nullsSumsSpec)) nullsSumsUptoCard
end Rows
end Go.Proofs.YtbmlipandjbbbabDoor
