/-
  DERIVED. GIVEN WITH THE SEED: THE CARDS: each row of YtkdpjocglfephaaDoorRows.lean that lists a variable, with what it lists TIED to the program's text (the seventh form; the later family's looks); each row that meets fmt, with fmt's text TOLD by the authors' own Lean function (tested against real Go, not proved from fmt's source: count such statements apart). THE CARD IS WHAT COUNTS. Prove the row's statement (the work); the ties are given (YtkdpjocglfephaaDoorTie.lean); close each card by the builder's one call (the guide's Derived/Test/ToyasCard.lean, 'card_holds'). Laid BY PROGRAM, IN A SANDBOX (cutbox-door.mjs). By AI agents, Wed Nov 11 2026. No macro, syntax, notation, axiom, sorry.
-/
import Derived.Test.YtkdpjocglfephaaDoorRows
import GoSem.ClaimSeven
namespace Go.Proofs.YtkdpjocglfephaaDoor
namespace Rows

/-- THE TIED CARD OF 'rabbetlaw23.PredAll'. -/
def predAllCard : Claim7 := { stood := { row := predAllRow, standIns := [], harness := (true, "ff42d0742f465b95db35b0665050b7068f44741b4b4ba43cfbe1e58adbe4d2ab"), looks := true }, kinds := [], alts := [], laidByText := true, laidKinds := [.handle, .sentinel, .sentinel, .sentinel], laidTests := true, laidLooks := .later }
def PredAllCardSaid : Prop := Claim7.holds Tryd.pinned (.plain (OpenSpec.ofChange predAllSpec)) predAllCard

/-- THE TIED CARD OF 'rabbetlaw24.AggAll'. -/
def aggAllCard : Claim7 := { stood := { row := aggAllRow, standIns := [], harness := (true, "ff42d0742f465b95db35b0665050b7068f44741b4b4ba43cfbe1e58adbe4d2ab"), looks := true }, kinds := [], alts := [], laidByText := true, laidKinds := [.sentinel, .sentinel, .sentinel], laidTests := true, laidLooks := .later }
def AggAllCardSaid : Prop := Claim7.holds Tryd.pinned (.plain (OpenSpec.ofChange aggAllSpec)) aggAllCard

/-- THE SECOND FORM's CARD OF 'rabbetlaw23.PredAll'. -/
def predAllUptoCard : Claim7 := { stood := { row := predAllUptoRow, standIns := [], harness := (true, "ff42d0742f465b95db35b0665050b7068f44741b4b4ba43cfbe1e58adbe4d2ab"), looks := true }, kinds := [], alts := [], laidByText := true, laidKinds := [.handle, .sentinel, .sentinel, .sentinel], laidTests := true, laidLooks := .later }
def PredAllUptoCardSaid : Prop := Claim7.holds Tryd.pinned (.plain (OpenSpec.upto predAllSpec)) predAllUptoCard

/-- THE SECOND FORM's CARD OF 'rabbetlaw24.AggAll'. -/
def aggAllUptoCard : Claim7 := { stood := { row := aggAllUptoRow, standIns := [], harness := (true, "ff42d0742f465b95db35b0665050b7068f44741b4b4ba43cfbe1e58adbe4d2ab"), looks := true }, kinds := [], alts := [], laidByText := true, laidKinds := [.sentinel, .sentinel, .sentinel], laidTests := true, laidLooks := .later }
def AggAllUptoCardSaid : Prop := Claim7.holds Tryd.pinned (.plain (OpenSpec.upto aggAllSpec)) aggAllUptoCard
end Rows
end Go.Proofs.YtkdpjocglfephaaDoor
