/-
  DERIVED. GIVEN WITH THE SEED: THE CARDS: each row of YtiacemlloaenoaaDoorRows.lean that lists a variable, with what it lists TIED to the program's text (the seventh form; the later family's looks); each row that meets fmt, with fmt's text TOLD by the authors' own Lean function (tested against real Go, not proved from fmt's source: count such statements apart). THE CARD IS WHAT COUNTS. Prove the row's statement (the work); the ties are given (YtiacemlloaenoaaDoorTie.lean); close each card by the builder's one call (the guide's Derived/Test/ToyasCard.lean, 'card_holds'). Laid BY PROGRAM, IN A SANDBOX (cutbox-door.mjs). By AI agents, Wed Nov 11 2026. No macro, syntax, notation, axiom, sorry.
-/
import Derived.Test.YtiacemlloaenoaaDoorRows
import GoSem.ClaimSeven
namespace Go.Proofs.YtiacemlloaenoaaDoor
namespace Rows

/-- THE TIED CARD OF 'rabbetlaw24.AggSums'. -/
def aggSumsCard : Claim7 := { stood := { row := aggSumsRow, standIns := [], harness := (true, "85a8c43799555e73be5a146e58b2129eb45387694b70a9b1d171459a5923ec4b"), looks := true }, kinds := [], alts := [], laidByText := true, laidKinds := [.sentinel, .sentinel, .sentinel], laidTests := true, laidLooks := .later }
def AggSumsCardSaid : Prop := Claim7.holds Tryd.pinned (.plain (OpenSpec.ofChange aggSumsSpec)) aggSumsCard

/-- THE SECOND FORM's CARD OF 'rabbetlaw24.AggSums'. -/
def aggSumsUptoCard : Claim7 := { stood := { row := aggSumsUptoRow, standIns := [], harness := (true, "85a8c43799555e73be5a146e58b2129eb45387694b70a9b1d171459a5923ec4b"), looks := true }, kinds := [], alts := [], laidByText := true, laidKinds := [.sentinel, .sentinel, .sentinel], laidTests := true, laidLooks := .later }
def AggSumsUptoCardSaid : Prop := Claim7.holds Tryd.pinned (.plain (OpenSpec.upto aggSumsSpec)) aggSumsUptoCard
end Rows
end Go.Proofs.YtiacemlloaenoaaDoor
