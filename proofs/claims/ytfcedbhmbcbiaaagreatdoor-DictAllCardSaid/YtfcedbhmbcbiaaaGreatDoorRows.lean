/-
  NARROWER THAN 'FOR EVERY INPUT', by the rows' own cells (each row's printed sentence says how): DictAll: laid · DictTurned: laid.
  DERIVED. THE GIVEN ROWS OF THIS SEAT. 2 by the template 'for every input the law returns true; each argument reads behind the call as it read before'; 0 by the template 'total and deterministic' (their statements: YtfcedbhmbcbiaaaGreatDoorTotals.lean).
  GIVEN WITH THE SEED: the statements are not yours to turn. If you find one false, say at which input.
  Laid BY PROGRAM, IN A SANDBOX (cutbox-rows.mjs): the forced cells as the released guide's own fill.sh prints them over the translation 95f5847033cbe004… (all of the seat's roots in one cut). By AI agents, Wed Nov 11 2026. No macro, syntax, notation, axiom, sorry.
-/
import Derived.Test.YtfcedbhmbcbiaaaGreatDoorChecked
import GoSem.Claim
import GoSem.ClaimJoined
import GoSem.ClaimMapViews
import Derived.JoinedTies
import Derived.KernelRfl
namespace Go.Proofs.YtfcedbhmbcbiaaaGreatDoor
/- THE CELL 'sum', in the pinned program and in every row, IS THE sha256 OF THE DUMP (.gsa) THAT YtfcedbhmbcbiaaaGreatDoorProg.lean LOADS. Nothing in Lean hashes anything: it is a label: what it is worth is what the hold of that sum in a sandbox is worth. -/
noncomputable def Tryz.pinned : Pinned := { name := "ytfcedbhmbcbiaaagreatdoor", sum := "95f5847033cbe00432e13567768aeeb605a5089e81ffbd2ebd32d98cb58a5645", checked := Tryz.checked }
namespace Rows
def none {H : Type} : Left H := { results := [], args := [] }

/- WHAT THE LISTED PACKAGE-LEVEL VARIABLES READ AS WHEN THE CALL BEGINS. Each datum BY PROGRAM (the guide's laid-datum.mjs) off the statement by which the dump's own 'gosem.cut.vars' lays the variable. In a bare row this is a premise. The card (YtfcedbhmbcbiaaaGreatDoorCards.lean) ties it to the program's text. -/
def laid_rabbet_fault_ErrShort {H : Type} : DataW H := .iface "*errors.errorString" (.ptr (.agg [.lit (.string [105, 116, 32, 101, 110, 100, 115, 32, 116, 111, 111, 32, 115, 111, 111, 110])]))
def laid_rabbet_fault_ErrSpare {H : Type} : DataW H := .iface "*errors.errorString" (.ptr (.agg [.lit (.string [116, 104, 101, 114, 101, 32, 105, 115, 32, 109, 111, 114, 101, 32, 116, 104, 97, 110, 32, 105, 116, 115, 32, 80, 117, 116, 32, 104, 97, 115])]))
def laid_rabbet_fault_ErrValue {H : Type} : DataW H := .iface "*errors.errorString" (.ptr (.agg [.lit (.string [105, 116, 32, 109, 97, 121, 32, 110, 111, 116, 32, 98, 101])]))
def laid_rabbet_fault_ErrType {H : Type} : DataW H := .iface "*errors.errorString" (.ptr (.agg [.lit (.string [105, 116, 32, 105, 115, 32, 111, 102, 32, 97, 110, 111, 116, 104, 101, 114, 32, 116, 121, 112, 101])]))
def laid_rabbet_fault_ErrBound {H : Type} : DataW H := .iface "*errors.errorString" (.ptr (.agg [.lit (.string [105, 116, 32, 105, 115, 32, 111, 117, 116, 32, 111, 102, 32, 98, 111, 117, 110, 100, 115])]))
def laid_rabbet_num_errNone {H : Type} : DataW H := .iface "*errors.errorString" (.ptr (.agg [.lit (.string [110, 111, 32, 110, 117, 109, 98, 101, 114])]))

/-- 'rabbetlaw7.DictAll': WHATEVER THE INPUT: true; the input reads as it did. -/
def dictAllSpec : ChangeSpec := { name := "dictAll", fn := fun _ => fun
  | [d1, d2, d3, d4, d5] => { results := [.lit (.bool true)], args := [d1, d2, d3, d4, d5] }
  | _ => none }
def dictAllRow : OpenClaim := { program := "ytfcedbhmbcbiaaagreatdoor", sum := "95f5847033cbe00432e13567768aeeb605a5089e81ffbd2ebd32d98cb58a5645", func := "rabbet/rabbetlaw7.DictAll", spec := "dictAll", inPlace := ["internal/bytealg.abigen_runtime_cmpstring", "internal/reflectlite.TypeOf"], unfollowed := true, recurses := true, named := ["rabbet/fault.ErrBound", "rabbet/fault.ErrValue", "rabbet/fault.ErrType", "rabbet/num.errNone", "rabbet/fault.ErrShort", "rabbet/fault.ErrSpare"], apart := false, laid := [("rabbet/fault.ErrShort", laid_rabbet_fault_ErrShort), ("rabbet/fault.ErrSpare", laid_rabbet_fault_ErrSpare), ("rabbet/fault.ErrValue", laid_rabbet_fault_ErrValue), ("rabbet/fault.ErrType", laid_rabbet_fault_ErrType), ("rabbet/fault.ErrBound", laid_rabbet_fault_ErrBound), ("rabbet/num.errNone", laid_rabbet_num_errNone)] }
def DictAllSaid : Prop := dictAllRow.holds Tryz.pinned (OpenSpec.ofChange dictAllSpec)

/-- ITS FALSE NEIGHBOUR: 'it returns false'. Refute it at one input. -/
def dictAllWrong : ChangeSpec := { name := "dictAll", fn := fun _ => fun
  | [d1, d2, d3, d4, d5] => { results := [.lit (.bool false)], args := [d1, d2, d3, d4, d5] }
  | _ => none }
def DictAllWrongFalsely : Prop := dictAllRow.holds Tryz.pinned (OpenSpec.ofChange dictAllWrong)

/-- 'rabbetlaw7.DictTurned': WHATEVER THE INPUT: true; the input reads as it did. -/
def dictTurnedSpec : ChangeSpec := { name := "dictTurned", fn := fun _ => fun
  | [d1, d2, d3, d4] => { results := [.lit (.bool true)], args := [d1, d2, d3, d4] }
  | _ => none }
def dictTurnedRow : OpenClaim := { program := "ytfcedbhmbcbiaaagreatdoor", sum := "95f5847033cbe00432e13567768aeeb605a5089e81ffbd2ebd32d98cb58a5645", func := "rabbet/rabbetlaw7.DictTurned", spec := "dictTurned", inPlace := ["internal/bytealg.abigen_runtime_cmpstring", "internal/reflectlite.TypeOf"], unfollowed := true, recurses := true, named := ["rabbet/fault.ErrBound", "rabbet/fault.ErrValue", "rabbet/fault.ErrType", "rabbet/num.errNone", "rabbet/fault.ErrShort", "rabbet/fault.ErrSpare"], apart := false, laid := [("rabbet/fault.ErrShort", laid_rabbet_fault_ErrShort), ("rabbet/fault.ErrSpare", laid_rabbet_fault_ErrSpare), ("rabbet/fault.ErrValue", laid_rabbet_fault_ErrValue), ("rabbet/fault.ErrType", laid_rabbet_fault_ErrType), ("rabbet/fault.ErrBound", laid_rabbet_fault_ErrBound), ("rabbet/num.errNone", laid_rabbet_num_errNone)] }
def DictTurnedSaid : Prop := dictTurnedRow.holds Tryz.pinned (OpenSpec.ofChange dictTurnedSpec)

/-- ITS FALSE NEIGHBOUR: 'it returns false'. Refute it at one input. -/
def dictTurnedWrong : ChangeSpec := { name := "dictTurned", fn := fun _ => fun
  | [d1, d2, d3, d4] => { results := [.lit (.bool false)], args := [d1, d2, d3, d4] }
  | _ => none }
def DictTurnedWrongFalsely : Prop := dictTurnedRow.holds Tryz.pinned (OpenSpec.ofChange dictTurnedWrong)

/- THE SECOND FORM. 'bulk': how many values and letters a reading holds, each counted each time it is reached (what is shared counts as often as it is met; a slice's spare places count too). A statement '..UptoSaid' is the law's where the arguments, and the package variables that the reading takes, are together of bulk at most 1048576: NARROWER than '..Said'. Prove '..Said' where nothing that the law and all that it calls make is longer than what came in: it says more and counts as full. Else prove '..UptoSaid'. A law counts once. -/
mutual
def uptoBulk {H : Type} : DataW H → Nat
  | .lit (.string bytes) => bytes.length + 1
  | .lit _ => 1
  | .nil => 1
  | .ptr d => uptoBulk d + 1
  | .slice elems spare => uptoBulkAll elems + uptoBulkAll spare + 1
  | .agg parts => uptoBulkAll parts + 1
  | .iface _ d => uptoBulk d + 1
  | .map entries => uptoBulkEntries entries + 1
  | .held _ => 1
def uptoBulkAll {H : Type} : List (DataW H) → Nat
  | [] => 0
  | d :: r => uptoBulk d + uptoBulkAll r
def uptoBulkEntries {H : Type} : List (Lit × DataW H) → Nat
  | [] => 0
  | x :: r => uptoBulkEntry x + uptoBulkEntries r
def uptoBulkEntry {H : Type} : Lit × DataW H → Nat
  | (.string bytes, d) => bytes.length + uptoBulk d + 1
  | (_, d) => uptoBulk d + 1
 end
def uptoSmall : (H : Type) → List (DataW H) → Bool := fun _ ds => decide (uptoBulkAll ds ≤ 1048576)
def OpenSpec.upto (s : _root_.Go.ChangeSpec) : _root_.Go.OpenSpec := { _root_.Go.OpenSpec.ofChange s with cond := some uptoSmall }

/-- 'rabbetlaw7.DictAll', WHERE WHAT IT READS IS OF BULK AT MOST 1048576: true; the input reads as it did. -/
def dictAllUptoRow : OpenClaim := { program := "ytfcedbhmbcbiaaagreatdoor", sum := "95f5847033cbe00432e13567768aeeb605a5089e81ffbd2ebd32d98cb58a5645", func := "rabbet/rabbetlaw7.DictAll", spec := "dictAll", inPlace := ["internal/bytealg.abigen_runtime_cmpstring", "internal/reflectlite.TypeOf"], unfollowed := true, recurses := true, named := ["rabbet/fault.ErrBound", "rabbet/fault.ErrValue", "rabbet/fault.ErrType", "rabbet/num.errNone", "rabbet/fault.ErrShort", "rabbet/fault.ErrSpare"], apart := false, laid := [("rabbet/fault.ErrShort", laid_rabbet_fault_ErrShort), ("rabbet/fault.ErrSpare", laid_rabbet_fault_ErrSpare), ("rabbet/fault.ErrValue", laid_rabbet_fault_ErrValue), ("rabbet/fault.ErrType", laid_rabbet_fault_ErrType), ("rabbet/fault.ErrBound", laid_rabbet_fault_ErrBound), ("rabbet/num.errNone", laid_rabbet_num_errNone)], narrowed := true }
def DictAllUptoSaid : Prop := dictAllUptoRow.holds Tryz.pinned (OpenSpec.upto dictAllSpec)

/-- 'rabbetlaw7.DictTurned', WHERE WHAT IT READS IS OF BULK AT MOST 1048576: true; the input reads as it did. -/
def dictTurnedUptoRow : OpenClaim := { program := "ytfcedbhmbcbiaaagreatdoor", sum := "95f5847033cbe00432e13567768aeeb605a5089e81ffbd2ebd32d98cb58a5645", func := "rabbet/rabbetlaw7.DictTurned", spec := "dictTurned", inPlace := ["internal/bytealg.abigen_runtime_cmpstring", "internal/reflectlite.TypeOf"], unfollowed := true, recurses := true, named := ["rabbet/fault.ErrBound", "rabbet/fault.ErrValue", "rabbet/fault.ErrType", "rabbet/num.errNone", "rabbet/fault.ErrShort", "rabbet/fault.ErrSpare"], apart := false, laid := [("rabbet/fault.ErrShort", laid_rabbet_fault_ErrShort), ("rabbet/fault.ErrSpare", laid_rabbet_fault_ErrSpare), ("rabbet/fault.ErrValue", laid_rabbet_fault_ErrValue), ("rabbet/fault.ErrType", laid_rabbet_fault_ErrType), ("rabbet/fault.ErrBound", laid_rabbet_fault_ErrBound), ("rabbet/num.errNone", laid_rabbet_num_errNone)], narrowed := true }
def DictTurnedUptoSaid : Prop := dictTurnedUptoRow.holds Tryz.pinned (OpenSpec.upto dictTurnedSpec)

end Rows
end Go.Proofs.YtfcedbhmbcbiaaaGreatDoor
