/-
  NARROWER THAN 'FOR EVERY INPUT', by the rows' own cells (each row's printed sentence says how): ColumnAll: laid.
  DERIVED. THE GIVEN ROWS OF THIS SEAT. 1 by the template 'for every input the law returns true; each argument reads behind the call as it read before'; 0 by the template 'total and deterministic' (their statements: YtldalkhmbpkjpaaGreatDoorTotals.lean).
  GIVEN WITH THE SEED: the statements are not yours to turn. If you find one false, say at which input.
  Laid BY PROGRAM, IN A SANDBOX (cutbox-rows.mjs): the forced cells as the released guide's own fill.sh prints them over the translation 470da0c2e1778354… (all of the seat's roots in one cut). By AI agents, Wed Nov 11 2026. No macro, syntax, notation, axiom, sorry.
-/
import Derived.Test.YtldalkhmbpkjpaaGreatDoorChecked
import GoSem.Claim
import GoSem.ClaimJoined
import GoSem.ClaimMapViews
import Derived.JoinedTies
import Derived.KernelRfl
namespace Go.Proofs.YtldalkhmbpkjpaaGreatDoor
/- THE CELL 'sum', in the pinned program and in every row, IS THE sha256 OF THE DUMP (.gsa) THAT YtldalkhmbpkjpaaGreatDoorProg.lean LOADS. Nothing in Lean hashes anything: it is a label: what it is worth is what the hold of that sum in a sandbox is worth. -/
noncomputable def Tryz.pinned : Pinned := { name := "ytldalkhmbpkjpaagreatdoor", sum := "470da0c2e1778354cdc4bb7283aff8cbf60852e4a0302e0684f372aa4b44da5c", checked := Tryz.checked }
namespace Rows
def none {H : Type} : Left H := { results := [], args := [] }

/- WHAT THE LISTED PACKAGE-LEVEL VARIABLES READ AS WHEN THE CALL BEGINS. Each datum BY PROGRAM (the guide's laid-datum.mjs) off the statement by which the dump's own 'gosem.cut.vars' lays the variable. In a bare row this is a premise. The card (YtldalkhmbpkjpaaGreatDoorCards.lean) ties it to the program's text. -/
def laid_rabbet_fault_ErrShort {H : Type} : DataW H := .iface "*errors.errorString" (.ptr (.agg [.lit (.string [105, 116, 32, 101, 110, 100, 115, 32, 116, 111, 111, 32, 115, 111, 111, 110])]))
def laid_rabbet_fault_ErrSpare {H : Type} : DataW H := .iface "*errors.errorString" (.ptr (.agg [.lit (.string [116, 104, 101, 114, 101, 32, 105, 115, 32, 109, 111, 114, 101, 32, 116, 104, 97, 110, 32, 105, 116, 115, 32, 80, 117, 116, 32, 104, 97, 115])]))
def laid_rabbet_fault_ErrValue {H : Type} : DataW H := .iface "*errors.errorString" (.ptr (.agg [.lit (.string [105, 116, 32, 109, 97, 121, 32, 110, 111, 116, 32, 98, 101])]))
def laid_rabbet_fault_ErrType {H : Type} : DataW H := .iface "*errors.errorString" (.ptr (.agg [.lit (.string [105, 116, 32, 105, 115, 32, 111, 102, 32, 97, 110, 111, 116, 104, 101, 114, 32, 116, 121, 112, 101])]))
def laid_rabbet_fault_ErrBound {H : Type} : DataW H := .iface "*errors.errorString" (.ptr (.agg [.lit (.string [105, 116, 32, 105, 115, 32, 111, 117, 116, 32, 111, 102, 32, 98, 111, 117, 110, 100, 115])]))
def laid_rabbet_num_errNone {H : Type} : DataW H := .iface "*errors.errorString" (.ptr (.agg [.lit (.string [110, 111, 32, 110, 117, 109, 98, 101, 114])]))

/-- 'rabbetlaw10.ColumnAll': WHATEVER THE INPUT: true; the input reads as it did. -/
def columnAllSpec : ChangeSpec := { name := "columnAll", fn := fun _ => fun
  | [d1, d2, d3, d4, d5, d6] => { results := [.lit (.bool true)], args := [d1, d2, d3, d4, d5, d6] }
  | _ => none }
def columnAllRow : OpenClaim := { program := "ytldalkhmbpkjpaagreatdoor", sum := "470da0c2e1778354cdc4bb7283aff8cbf60852e4a0302e0684f372aa4b44da5c", func := "rabbet/rabbetlaw10.ColumnAll", spec := "columnAll", inPlace := ["internal/bytealg.abigen_runtime_cmpstring", "internal/reflectlite.TypeOf"], unfollowed := true, recurses := true, named := ["rabbet/fault.ErrType", "rabbet/fault.ErrValue", "rabbet/fault.ErrBound", "rabbet/fault.ErrShort", "rabbet/fault.ErrSpare", "rabbet/num.errNone"], apart := false, laid := [("rabbet/fault.ErrShort", laid_rabbet_fault_ErrShort), ("rabbet/fault.ErrSpare", laid_rabbet_fault_ErrSpare), ("rabbet/fault.ErrValue", laid_rabbet_fault_ErrValue), ("rabbet/fault.ErrType", laid_rabbet_fault_ErrType), ("rabbet/fault.ErrBound", laid_rabbet_fault_ErrBound), ("rabbet/num.errNone", laid_rabbet_num_errNone)] }
def ColumnAllSaid : Prop := columnAllRow.holds Tryz.pinned (OpenSpec.ofChange columnAllSpec)

/-- ITS FALSE NEIGHBOUR: 'it returns false'. Refute it at one input. -/
def columnAllWrong : ChangeSpec := { name := "columnAll", fn := fun _ => fun
  | [d1, d2, d3, d4, d5, d6] => { results := [.lit (.bool false)], args := [d1, d2, d3, d4, d5, d6] }
  | _ => none }
def ColumnAllWrongFalsely : Prop := columnAllRow.holds Tryz.pinned (OpenSpec.ofChange columnAllWrong)

/- THE SECOND FORM. 'bulk': how many values and letters a reading holds, each counted each time it is reached (what is shared counts as often as it is met; a slice's spare places count too). A statement '..UptoSaid' is the law's where the arguments, and the package variables that the reading takes, are together of bulk at most 1048576: NARROWER than '..Said'. Prove '..Said' where nothing that the law and all that it calls make is longer than what came in: it says more and counts as full. Else prove '..UptoSaid'. A law counts once. -/
mutual
def uptoBulk {H : Type} : DataW H → Nat
  | .lit (.string bytes) => bytes.length + 1
  | .lit _ => 1
  | .nil => 1
  | .ptr d => uptoBulk d + 1
  | .slice elems spare => uptoBulkAll elems + uptoBulkAll spare + 1
  | .agg parts => uptoBulkAll parts + 1
  | .iface _ d => uptoBulk d + 1
  | .map entries => uptoBulkEntries entries + 1
  | .held _ => 1
def uptoBulkAll {H : Type} : List (DataW H) → Nat
  | [] => 0
  | d :: r => uptoBulk d + uptoBulkAll r
def uptoBulkEntries {H : Type} : List (Lit × DataW H) → Nat
  | [] => 0
  | x :: r => uptoBulkEntry x + uptoBulkEntries r
def uptoBulkEntry {H : Type} : Lit × DataW H → Nat
  | (.string bytes, d) => bytes.length + uptoBulk d + 1
  | (_, d) => uptoBulk d + 1
 end
def uptoSmall : (H : Type) → List (DataW H) → Bool := fun _ ds => decide (uptoBulkAll ds ≤ 1048576)
def OpenSpec.upto (s : _root_.Go.ChangeSpec) : _root_.Go.OpenSpec := { _root_.Go.OpenSpec.ofChange s with cond := some uptoSmall }

/-- 'rabbetlaw10.ColumnAll', WHERE WHAT IT READS IS OF BULK AT MOST 1048576: true; the input reads as it did. -/
def columnAllUptoRow : OpenClaim := { program := "ytldalkhmbpkjpaagreatdoor", sum := "470da0c2e1778354cdc4bb7283aff8cbf60852e4a0302e0684f372aa4b44da5c", func := "rabbet/rabbetlaw10.ColumnAll", spec := "columnAll", inPlace := ["internal/bytealg.abigen_runtime_cmpstring", "internal/reflectlite.TypeOf"], unfollowed := true, recurses := true, named := ["rabbet/fault.ErrType", "rabbet/fault.ErrValue", "rabbet/fault.ErrBound", "rabbet/fault.ErrShort", "rabbet/fault.ErrSpare", "rabbet/num.errNone"], apart := false, laid := [("rabbet/fault.ErrShort", laid_rabbet_fault_ErrShort), ("rabbet/fault.ErrSpare", laid_rabbet_fault_ErrSpare), ("rabbet/fault.ErrValue", laid_rabbet_fault_ErrValue), ("rabbet/fault.ErrType", laid_rabbet_fault_ErrType), ("rabbet/fault.ErrBound", laid_rabbet_fault_ErrBound), ("rabbet/num.errNone", laid_rabbet_num_errNone)], narrowed := true }
def ColumnAllUptoSaid : Prop := columnAllUptoRow.holds Tryz.pinned (OpenSpec.upto columnAllSpec)

end Rows
end Go.Proofs.YtldalkhmbpkjpaaGreatDoor
