/-
  NARROWER THAN 'FOR EVERY INPUT', by the rows' own cells (each row's printed sentence says how): AggSums: laid.
  DERIVED. THE GIVEN ROWS OF THIS SEAT. 1 by the template 'for every input the law returns true; each argument reads behind the call as it read before'; 0 by the template 'total and deterministic' (their statements: YtiacemlloaenoaaDoorTotals.lean).
  GIVEN WITH THE SEED: the statements are not yours to turn. If you find one false, say at which input.
  Laid BY PROGRAM, IN A SANDBOX (cutbox-rows.mjs): the forced cells as the released guide's own fill.sh prints them over the translation 7b8c73c39be56ba2… (all of the seat's roots in one cut). By AI agents, Wed Nov 11 2026. No macro, syntax, notation, axiom, sorry.
-/
import Derived.Test.YtiacemlloaenoaaDoorChecked
import GoSem.Claim
import GoSem.ClaimJoined
import GoSem.ClaimMapViews
import Derived.JoinedTies
import Derived.KernelRfl
namespace Go.Proofs.YtiacemlloaenoaaDoor
/- THE CELL 'sum', in the pinned program and in every row, IS THE sha256 OF THE DUMP (.gsa) THAT YtiacemlloaenoaaDoorProg.lean LOADS. Nothing in Lean hashes anything: it is a label: what it is worth is what the hold of that sum in a sandbox is worth. -/
noncomputable def Tryd.pinned : Pinned := { name := "ytiacemlloaenoaadoor", sum := "7b8c73c39be56ba23b3fcfda7aeb65ede044e2d7fa9bc45111b0b41095ff1cc0", checked := Tryd.checked }
namespace Rows
def none {H : Type} : Left H := { results := [], args := [] }

/- WHAT THE LISTED PACKAGE-LEVEL VARIABLES READ AS WHEN THE CALL BEGINS. Each datum BY PROGRAM (the guide's laid-datum.mjs) off the statement by which the dump's own 'gosem.cut.vars' lays the variable. In a bare row this is a premise. The card (YtiacemlloaenoaaDoorCards.lean) ties it to the program's text. -/
def laid_rabbet_agg_errArg {H : Type} : DataW H := .iface "*errors.errorString" (.ptr (.agg [.lit (.string [105, 116, 32, 109, 97, 121, 32, 110, 111, 116, 32, 98, 101])]))
def laid_rabbet_agg_errType {H : Type} : DataW H := .iface "*errors.errorString" (.ptr (.agg [.lit (.string [110, 111, 32, 110, 117, 109, 98, 101, 114, 32, 116, 111, 32, 98, 101, 32, 115, 117, 109, 109, 101, 100, 32, 117, 112])]))
def laid_rabbet_agg_errOver {H : Type} : DataW H := .iface "*errors.errorString" (.ptr (.agg [.lit (.string [97, 32, 115, 117, 109, 32, 98, 101, 121, 111, 110, 100, 32, 97, 110, 32, 73, 110, 116])]))

/-- 'rabbetlaw24.AggSums': WHATEVER THE INPUT: true; the input reads as it did. -/
def aggSumsSpec : ChangeSpec := { name := "aggSums", fn := fun _ => fun
  | [d1, d2, d3] => { results := [.lit (.bool true)], args := [d1, d2, d3] }
  | _ => none }
def aggSumsRow : OpenClaim := { program := "ytiacemlloaenoaadoor", sum := "7b8c73c39be56ba23b3fcfda7aeb65ede044e2d7fa9bc45111b0b41095ff1cc0", func := "rabbet/rabbetlaw24.AggSums", spec := "aggSums", inPlace := ["internal/bytealg.abigen_runtime_cmpstring", "math/bits.Add64", "internal/reflectlite.TypeOf"], unfollowed := true, recurses := true, named := ["rabbet/agg.errArg", "rabbet/agg.errType", "rabbet/agg.errOver"], apart := false, laid := [("rabbet/agg.errArg", laid_rabbet_agg_errArg), ("rabbet/agg.errType", laid_rabbet_agg_errType), ("rabbet/agg.errOver", laid_rabbet_agg_errOver)] }
def AggSumsSaid : Prop := aggSumsRow.holds Tryd.pinned (OpenSpec.ofChange aggSumsSpec)

/-- ITS FALSE NEIGHBOUR: 'it returns false'. Refute it at one input. -/
def aggSumsWrong : ChangeSpec := { name := "aggSums", fn := fun _ => fun
  | [d1, d2, d3] => { results := [.lit (.bool false)], args := [d1, d2, d3] }
  | _ => none }
def AggSumsWrongFalsely : Prop := aggSumsRow.holds Tryd.pinned (OpenSpec.ofChange aggSumsWrong)

/- THE SECOND FORM. 'bulk': how many values and letters a reading holds, each counted each time it is reached (what is shared counts as often as it is met; a slice's spare places count too). A statement '..UptoSaid' is the law's where the arguments, and the package variables that the reading takes, are together of bulk at most 1048576: NARROWER than '..Said'. Prove '..Said' where nothing that the law and all that it calls make is longer than what came in: it says more and counts as full. Else prove '..UptoSaid'. A law counts once. -/
mutual
def uptoBulk {H : Type} : DataW H → Nat
  | .lit (.string bytes) => bytes.length + 1
  | .lit _ => 1
  | .nil => 1
  | .ptr d => uptoBulk d + 1
  | .slice elems spare => uptoBulkAll elems + uptoBulkAll spare + 1
  | .agg parts => uptoBulkAll parts + 1
  | .iface _ d => uptoBulk d + 1
  | .map entries => uptoBulkEntries entries + 1
  | .held _ => 1
def uptoBulkAll {H : Type} : List (DataW H) → Nat
  | [] => 0
  | d :: r => uptoBulk d + uptoBulkAll r
def uptoBulkEntries {H : Type} : List (Lit × DataW H) → Nat
  | [] => 0
  | x :: r => uptoBulkEntry x + uptoBulkEntries r
def uptoBulkEntry {H : Type} : Lit × DataW H → Nat
  | (.string bytes, d) => bytes.length + uptoBulk d + 1
  | (_, d) => uptoBulk d + 1
 end
def uptoSmall : (H : Type) → List (DataW H) → Bool := fun _ ds => decide (uptoBulkAll ds ≤ 1048576)
def OpenSpec.upto (s : _root_.Go.ChangeSpec) : _root_.Go.OpenSpec := { _root_.Go.OpenSpec.ofChange s with cond := some uptoSmall }

/-- 'rabbetlaw24.AggSums', WHERE WHAT IT READS IS OF BULK AT MOST 1048576: true; the input reads as it did. -/
def aggSumsUptoRow : OpenClaim := { program := "ytiacemlloaenoaadoor", sum := "7b8c73c39be56ba23b3fcfda7aeb65ede044e2d7fa9bc45111b0b41095ff1cc0", func := "rabbet/rabbetlaw24.AggSums", spec := "aggSums", inPlace := ["internal/bytealg.abigen_runtime_cmpstring", "math/bits.Add64", "internal/reflectlite.TypeOf"], unfollowed := true, recurses := true, named := ["rabbet/agg.errArg", "rabbet/agg.errType", "rabbet/agg.errOver"], apart := false, laid := [("rabbet/agg.errArg", laid_rabbet_agg_errArg), ("rabbet/agg.errType", laid_rabbet_agg_errType), ("rabbet/agg.errOver", laid_rabbet_agg_errOver)], narrowed := true }
def AggSumsUptoSaid : Prop := aggSumsUptoRow.holds Tryd.pinned (OpenSpec.upto aggSumsSpec)

end Rows
end Go.Proofs.YtiacemlloaenoaaDoor
