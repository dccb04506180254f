/-
  DERIVED. GIVEN WITH THE SEED: THE CARDS: each row of YtfcedbhmbcbiaaaGreatDoorRows.lean that lists a variable, with what it lists TIED to the program's text (the seventh form; the later family's looks); each row that meets fmt, with fmt's text TOLD by the authors' own Lean function (tested against real Go, not proved from fmt's source: count such statements apart). THE CARD IS WHAT COUNTS. Prove the row's statement (the work); the ties are given (YtfcedbhmbcbiaaaGreatDoorTie.lean); close each card by the builder's one call (the guide's Derived/Test/ToyasCard.lean, 'card_holds'). Laid BY PROGRAM, IN A SANDBOX (cutbox-door.mjs). By AI agents, Wed Nov 11 2026. No macro, syntax, notation, axiom, sorry.
-/
import Derived.Test.YtfcedbhmbcbiaaaGreatDoorRows
import GoSem.ClaimSeven
namespace Go.Proofs.YtfcedbhmbcbiaaaGreatDoor
namespace Rows

/-- THE TIED CARD OF 'rabbetlaw7.DictAll'. -/
def dictAllCard : Claim7 := { stood := { row := dictAllRow, standIns := [], harness := (true, "4c57a22c9d09f1d35cb081ffdaf2edae5a0ac7146d97815ba55f9c74415c5aaf"), looks := true }, kinds := [], alts := [], laidByText := true, laidKinds := [.sentinel, .sentinel, .sentinel, .sentinel, .sentinel, .sentinel], laidTests := true, laidLooks := .later }
def DictAllCardSaid : Prop := Claim7.holds Tryz.pinned (.plain (OpenSpec.ofChange dictAllSpec)) dictAllCard

/-- THE TIED CARD OF 'rabbetlaw7.DictTurned'. -/
def dictTurnedCard : Claim7 := { stood := { row := dictTurnedRow, standIns := [], harness := (true, "4c57a22c9d09f1d35cb081ffdaf2edae5a0ac7146d97815ba55f9c74415c5aaf"), looks := true }, kinds := [], alts := [], laidByText := true, laidKinds := [.sentinel, .sentinel, .sentinel, .sentinel, .sentinel, .sentinel], laidTests := true, laidLooks := .later }
def DictTurnedCardSaid : Prop := Claim7.holds Tryz.pinned (.plain (OpenSpec.ofChange dictTurnedSpec)) dictTurnedCard

/-- THE SECOND FORM's CARD OF 'rabbetlaw7.DictAll'. -/
def dictAllUptoCard : Claim7 := { stood := { row := dictAllUptoRow, standIns := [], harness := (true, "4c57a22c9d09f1d35cb081ffdaf2edae5a0ac7146d97815ba55f9c74415c5aaf"), looks := true }, kinds := [], alts := [], laidByText := true, laidKinds := [.sentinel, .sentinel, .sentinel, .sentinel, .sentinel, .sentinel], laidTests := true, laidLooks := .later }
def DictAllUptoCardSaid : Prop := Claim7.holds Tryz.pinned (.plain (OpenSpec.upto dictAllSpec)) dictAllUptoCard

/-- THE SECOND FORM's CARD OF 'rabbetlaw7.DictTurned'. -/
def dictTurnedUptoCard : Claim7 := { stood := { row := dictTurnedUptoRow, standIns := [], harness := (true, "4c57a22c9d09f1d35cb081ffdaf2edae5a0ac7146d97815ba55f9c74415c5aaf"), looks := true }, kinds := [], alts := [], laidByText := true, laidKinds := [.sentinel, .sentinel, .sentinel, .sentinel, .sentinel, .sentinel], laidTests := true, laidLooks := .later }
def DictTurnedUptoCardSaid : Prop := Claim7.holds Tryz.pinned (.plain (OpenSpec.upto dictTurnedSpec)) dictTurnedUptoCard
end Rows
end Go.Proofs.YtfcedbhmbcbiaaaGreatDoor
