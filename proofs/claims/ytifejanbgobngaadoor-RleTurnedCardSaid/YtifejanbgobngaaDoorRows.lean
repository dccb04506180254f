/-
  NARROWER THAN 'FOR EVERY INPUT', by the rows' own cells (each row's printed sentence says how): PlainAll: laid · PlainBack: laid · PlainTurned: laid · PlainForms: laid · RleAll: laid · RleBack: laid · RleTurned: laid · RleForms: laid · RleRuns: laid.
  DERIVED. THE GIVEN ROWS OF THIS SEAT. 9 by the template 'for every input the law returns true; each argument reads behind the call as it read before'; 0 by the template 'total and deterministic' (their statements: YtifejanbgobngaaDoorTotals.lean).
  GIVEN WITH THE SEED: the statements are not yours to turn. If you find one false, say at which input.
  Laid BY PROGRAM, IN A SANDBOX (cutbox-rows.mjs): the forced cells as the released guide's own fill.sh prints them over the translation 2fa9df9dd77721c2… (all of the seat's roots in one cut). By AI agents, Wed Nov 11 2026. No macro, syntax, notation, axiom, sorry.
-/
import Derived.Test.YtifejanbgobngaaDoorChecked
import GoSem.Claim
import GoSem.ClaimJoined
import GoSem.ClaimMapViews
import Derived.JoinedTies
import Derived.KernelRfl
namespace Go.Proofs.YtifejanbgobngaaDoor
/- THE CELL 'sum', in the pinned program and in every row, IS THE sha256 OF THE DUMP (.gsa) THAT YtifejanbgobngaaDoorProg.lean LOADS. Nothing in Lean hashes anything: it is a label: what it is worth is what the hold of that sum in a sandbox is worth. -/
noncomputable def Tryd.pinned : Pinned := { name := "ytifejanbgobngaadoor", sum := "2fa9df9dd77721c211d9f18d32f3153f7eae61bfad3472c74178abf56771b979", checked := Tryd.checked }
namespace Rows
def none {H : Type} : Left H := { results := [], args := [] }

/- WHAT THE LISTED PACKAGE-LEVEL VARIABLES READ AS WHEN THE CALL BEGINS. Each datum BY PROGRAM (the guide's laid-datum.mjs) off the statement by which the dump's own 'gosem.cut.vars' lays the variable. In a bare row this is a premise. The card (YtifejanbgobngaaDoorCards.lean) ties it to the program's text. -/
def laid_rabbet_fault_ErrShort {H : Type} : DataW H := .iface "*errors.errorString" (.ptr (.agg [.lit (.string [105, 116, 32, 101, 110, 100, 115, 32, 116, 111, 111, 32, 115, 111, 111, 110])]))
def laid_rabbet_fault_ErrSpare {H : Type} : DataW H := .iface "*errors.errorString" (.ptr (.agg [.lit (.string [116, 104, 101, 114, 101, 32, 105, 115, 32, 109, 111, 114, 101, 32, 116, 104, 97, 110, 32, 105, 116, 115, 32, 80, 117, 116, 32, 104, 97, 115])]))
def laid_rabbet_fault_ErrValue {H : Type} : DataW H := .iface "*errors.errorString" (.ptr (.agg [.lit (.string [105, 116, 32, 109, 97, 121, 32, 110, 111, 116, 32, 98, 101])]))
def laid_rabbet_fault_ErrType {H : Type} : DataW H := .iface "*errors.errorString" (.ptr (.agg [.lit (.string [105, 116, 32, 105, 115, 32, 111, 102, 32, 97, 110, 111, 116, 104, 101, 114, 32, 116, 121, 112, 101])]))
def laid_rabbet_fault_ErrBound {H : Type} : DataW H := .iface "*errors.errorString" (.ptr (.agg [.lit (.string [105, 116, 32, 105, 115, 32, 111, 117, 116, 32, 111, 102, 32, 98, 111, 117, 110, 100, 115])]))
def laid_rabbet_num_errNone {H : Type} : DataW H := .iface "*errors.errorString" (.ptr (.agg [.lit (.string [110, 111, 32, 110, 117, 109, 98, 101, 114])]))

/-- 'rabbetlaw5.PlainAll': WHATEVER THE INPUT: true; the input reads as it did. -/
def plainAllSpec : ChangeSpec := { name := "plainAll", fn := fun _ => fun
  | [d1, d2, d3, d4, d5] => { results := [.lit (.bool true)], args := [d1, d2, d3, d4, d5] }
  | _ => none }
def plainAllRow : OpenClaim := { program := "ytifejanbgobngaadoor", sum := "2fa9df9dd77721c211d9f18d32f3153f7eae61bfad3472c74178abf56771b979", func := "rabbet/rabbetlaw5.PlainAll", spec := "plainAll", inPlace := ["internal/reflectlite.TypeOf"], unfollowed := true, recurses := true, named := ["rabbet/fault.ErrValue", "rabbet/fault.ErrType", "rabbet/fault.ErrBound", "rabbet/fault.ErrSpare", "rabbet/fault.ErrShort", "rabbet/num.errNone"], apart := false, laid := [("rabbet/fault.ErrShort", laid_rabbet_fault_ErrShort), ("rabbet/fault.ErrSpare", laid_rabbet_fault_ErrSpare), ("rabbet/fault.ErrValue", laid_rabbet_fault_ErrValue), ("rabbet/fault.ErrType", laid_rabbet_fault_ErrType), ("rabbet/fault.ErrBound", laid_rabbet_fault_ErrBound), ("rabbet/num.errNone", laid_rabbet_num_errNone)] }
def PlainAllSaid : Prop := plainAllRow.holds Tryd.pinned (OpenSpec.ofChange plainAllSpec)

/-- ITS FALSE NEIGHBOUR: 'it returns false'. Refute it at one input. -/
def plainAllWrong : ChangeSpec := { name := "plainAll", fn := fun _ => fun
  | [d1, d2, d3, d4, d5] => { results := [.lit (.bool false)], args := [d1, d2, d3, d4, d5] }
  | _ => none }
def PlainAllWrongFalsely : Prop := plainAllRow.holds Tryd.pinned (OpenSpec.ofChange plainAllWrong)

/-- 'rabbetlaw5.PlainBack': WHATEVER THE INPUT: true; the input reads as it did. -/
def plainBackSpec : ChangeSpec := { name := "plainBack", fn := fun _ => fun
  | [d1, d2, d3, d4] => { results := [.lit (.bool true)], args := [d1, d2, d3, d4] }
  | _ => none }
def plainBackRow : OpenClaim := { program := "ytifejanbgobngaadoor", sum := "2fa9df9dd77721c211d9f18d32f3153f7eae61bfad3472c74178abf56771b979", func := "rabbet/rabbetlaw5.PlainBack", spec := "plainBack", inPlace := ["internal/reflectlite.TypeOf"], unfollowed := true, recurses := true, named := ["rabbet/fault.ErrValue", "rabbet/fault.ErrType", "rabbet/fault.ErrBound", "rabbet/fault.ErrSpare", "rabbet/fault.ErrShort", "rabbet/num.errNone"], apart := false, laid := [("rabbet/fault.ErrShort", laid_rabbet_fault_ErrShort), ("rabbet/fault.ErrSpare", laid_rabbet_fault_ErrSpare), ("rabbet/fault.ErrValue", laid_rabbet_fault_ErrValue), ("rabbet/fault.ErrType", laid_rabbet_fault_ErrType), ("rabbet/fault.ErrBound", laid_rabbet_fault_ErrBound), ("rabbet/num.errNone", laid_rabbet_num_errNone)] }
def PlainBackSaid : Prop := plainBackRow.holds Tryd.pinned (OpenSpec.ofChange plainBackSpec)

/-- ITS FALSE NEIGHBOUR: 'it returns false'. Refute it at one input. -/
def plainBackWrong : ChangeSpec := { name := "plainBack", fn := fun _ => fun
  | [d1, d2, d3, d4] => { results := [.lit (.bool false)], args := [d1, d2, d3, d4] }
  | _ => none }
def PlainBackWrongFalsely : Prop := plainBackRow.holds Tryd.pinned (OpenSpec.ofChange plainBackWrong)

/-- 'rabbetlaw5.PlainTurned': WHATEVER THE INPUT: true; the input reads as it did. -/
def plainTurnedSpec : ChangeSpec := { name := "plainTurned", fn := fun _ => fun
  | [d1, d2, d3, d4] => { results := [.lit (.bool true)], args := [d1, d2, d3, d4] }
  | _ => none }
def plainTurnedRow : OpenClaim := { program := "ytifejanbgobngaadoor", sum := "2fa9df9dd77721c211d9f18d32f3153f7eae61bfad3472c74178abf56771b979", func := "rabbet/rabbetlaw5.PlainTurned", spec := "plainTurned", inPlace := ["internal/reflectlite.TypeOf"], unfollowed := true, recurses := true, named := ["rabbet/fault.ErrValue", "rabbet/fault.ErrType", "rabbet/fault.ErrBound", "rabbet/fault.ErrSpare", "rabbet/fault.ErrShort", "rabbet/num.errNone"], apart := false, laid := [("rabbet/fault.ErrShort", laid_rabbet_fault_ErrShort), ("rabbet/fault.ErrSpare", laid_rabbet_fault_ErrSpare), ("rabbet/fault.ErrValue", laid_rabbet_fault_ErrValue), ("rabbet/fault.ErrType", laid_rabbet_fault_ErrType), ("rabbet/fault.ErrBound", laid_rabbet_fault_ErrBound), ("rabbet/num.errNone", laid_rabbet_num_errNone)] }
def PlainTurnedSaid : Prop := plainTurnedRow.holds Tryd.pinned (OpenSpec.ofChange plainTurnedSpec)

/-- ITS FALSE NEIGHBOUR: 'it returns false'. Refute it at one input. -/
def plainTurnedWrong : ChangeSpec := { name := "plainTurned", fn := fun _ => fun
  | [d1, d2, d3, d4] => { results := [.lit (.bool false)], args := [d1, d2, d3, d4] }
  | _ => none }
def PlainTurnedWrongFalsely : Prop := plainTurnedRow.holds Tryd.pinned (OpenSpec.ofChange plainTurnedWrong)

/-- 'rabbetlaw5.PlainForms': WHATEVER THE INPUT: true; the input reads as it did. -/
def plainFormsSpec : ChangeSpec := { name := "plainForms", fn := fun _ => fun
  | [] => { results := [.lit (.bool true)], args := [] }
  | _ => none }
def plainFormsRow : OpenClaim := { program := "ytifejanbgobngaadoor", sum := "2fa9df9dd77721c211d9f18d32f3153f7eae61bfad3472c74178abf56771b979", func := "rabbet/rabbetlaw5.PlainForms", spec := "plainForms", inPlace := ["internal/reflectlite.TypeOf"], unfollowed := true, recurses := true, named := ["rabbet/fault.ErrValue", "rabbet/fault.ErrType", "rabbet/fault.ErrBound", "rabbet/fault.ErrSpare", "rabbet/fault.ErrShort", "rabbet/num.errNone"], apart := false, laid := [("rabbet/fault.ErrShort", laid_rabbet_fault_ErrShort), ("rabbet/fault.ErrSpare", laid_rabbet_fault_ErrSpare), ("rabbet/fault.ErrValue", laid_rabbet_fault_ErrValue), ("rabbet/fault.ErrType", laid_rabbet_fault_ErrType), ("rabbet/fault.ErrBound", laid_rabbet_fault_ErrBound), ("rabbet/num.errNone", laid_rabbet_num_errNone)] }
def PlainFormsSaid : Prop := plainFormsRow.holds Tryd.pinned (OpenSpec.ofChange plainFormsSpec)

/-- ITS FALSE NEIGHBOUR: 'it returns false'. Refute it at one input. -/
def plainFormsWrong : ChangeSpec := { name := "plainForms", fn := fun _ => fun
  | [] => { results := [.lit (.bool false)], args := [] }
  | _ => none }
def PlainFormsWrongFalsely : Prop := plainFormsRow.holds Tryd.pinned (OpenSpec.ofChange plainFormsWrong)

/-- 'rabbetlaw6.RleAll': WHATEVER THE INPUT: true; the input reads as it did. -/
def rleAllSpec : ChangeSpec := { name := "rleAll", fn := fun _ => fun
  | [d1, d2, d3, d4, d5] => { results := [.lit (.bool true)], args := [d1, d2, d3, d4, d5] }
  | _ => none }
def rleAllRow : OpenClaim := { program := "ytifejanbgobngaadoor", sum := "2fa9df9dd77721c211d9f18d32f3153f7eae61bfad3472c74178abf56771b979", func := "rabbet/rabbetlaw6.RleAll", spec := "rleAll", inPlace := ["internal/bytealg.abigen_runtime_cmpstring", "internal/reflectlite.TypeOf"], unfollowed := true, recurses := true, named := ["rabbet/fault.ErrValue", "rabbet/fault.ErrType", "rabbet/fault.ErrBound", "rabbet/fault.ErrSpare", "rabbet/fault.ErrShort", "rabbet/num.errNone"], apart := false, laid := [("rabbet/fault.ErrShort", laid_rabbet_fault_ErrShort), ("rabbet/fault.ErrSpare", laid_rabbet_fault_ErrSpare), ("rabbet/fault.ErrValue", laid_rabbet_fault_ErrValue), ("rabbet/fault.ErrType", laid_rabbet_fault_ErrType), ("rabbet/fault.ErrBound", laid_rabbet_fault_ErrBound), ("rabbet/num.errNone", laid_rabbet_num_errNone)] }
def RleAllSaid : Prop := rleAllRow.holds Tryd.pinned (OpenSpec.ofChange rleAllSpec)

/-- ITS FALSE NEIGHBOUR: 'it returns false'. Refute it at one input. -/
def rleAllWrong : ChangeSpec := { name := "rleAll", fn := fun _ => fun
  | [d1, d2, d3, d4, d5] => { results := [.lit (.bool false)], args := [d1, d2, d3, d4, d5] }
  | _ => none }
def RleAllWrongFalsely : Prop := rleAllRow.holds Tryd.pinned (OpenSpec.ofChange rleAllWrong)

/-- 'rabbetlaw6.RleBack': WHATEVER THE INPUT: true; the input reads as it did. -/
def rleBackSpec : ChangeSpec := { name := "rleBack", fn := fun _ => fun
  | [d1, d2, d3, d4] => { results := [.lit (.bool true)], args := [d1, d2, d3, d4] }
  | _ => none }
def rleBackRow : OpenClaim := { program := "ytifejanbgobngaadoor", sum := "2fa9df9dd77721c211d9f18d32f3153f7eae61bfad3472c74178abf56771b979", func := "rabbet/rabbetlaw6.RleBack", spec := "rleBack", inPlace := ["internal/bytealg.abigen_runtime_cmpstring", "internal/reflectlite.TypeOf"], unfollowed := true, recurses := true, named := ["rabbet/fault.ErrValue", "rabbet/fault.ErrType", "rabbet/fault.ErrBound", "rabbet/fault.ErrSpare", "rabbet/fault.ErrShort", "rabbet/num.errNone"], apart := false, laid := [("rabbet/fault.ErrShort", laid_rabbet_fault_ErrShort), ("rabbet/fault.ErrSpare", laid_rabbet_fault_ErrSpare), ("rabbet/fault.ErrValue", laid_rabbet_fault_ErrValue), ("rabbet/fault.ErrType", laid_rabbet_fault_ErrType), ("rabbet/fault.ErrBound", laid_rabbet_fault_ErrBound), ("rabbet/num.errNone", laid_rabbet_num_errNone)] }
def RleBackSaid : Prop := rleBackRow.holds Tryd.pinned (OpenSpec.ofChange rleBackSpec)

/-- ITS FALSE NEIGHBOUR: 'it returns false'. Refute it at one input. -/
def rleBackWrong : ChangeSpec := { name := "rleBack", fn := fun _ => fun
  | [d1, d2, d3, d4] => { results := [.lit (.bool false)], args := [d1, d2, d3, d4] }
  | _ => none }
def RleBackWrongFalsely : Prop := rleBackRow.holds Tryd.pinned (OpenSpec.ofChange rleBackWrong)

/-- 'rabbetlaw6.RleTurned': WHATEVER THE INPUT: true; the input reads as it did. -/
def rleTurnedSpec : ChangeSpec := { name := "rleTurned", fn := fun _ => fun
  | [d1, d2, d3, d4] => { results := [.lit (.bool true)], args := [d1, d2, d3, d4] }
  | _ => none }
def rleTurnedRow : OpenClaim := { program := "ytifejanbgobngaadoor", sum := "2fa9df9dd77721c211d9f18d32f3153f7eae61bfad3472c74178abf56771b979", func := "rabbet/rabbetlaw6.RleTurned", spec := "rleTurned", inPlace := ["internal/bytealg.abigen_runtime_cmpstring", "internal/reflectlite.TypeOf"], unfollowed := true, recurses := true, named := ["rabbet/fault.ErrValue", "rabbet/fault.ErrType", "rabbet/fault.ErrBound", "rabbet/fault.ErrSpare", "rabbet/fault.ErrShort", "rabbet/num.errNone"], apart := false, laid := [("rabbet/fault.ErrShort", laid_rabbet_fault_ErrShort), ("rabbet/fault.ErrSpare", laid_rabbet_fault_ErrSpare), ("rabbet/fault.ErrValue", laid_rabbet_fault_ErrValue), ("rabbet/fault.ErrType", laid_rabbet_fault_ErrType), ("rabbet/fault.ErrBound", laid_rabbet_fault_ErrBound), ("rabbet/num.errNone", laid_rabbet_num_errNone)] }
def RleTurnedSaid : Prop := rleTurnedRow.holds Tryd.pinned (OpenSpec.ofChange rleTurnedSpec)

/-- ITS FALSE NEIGHBOUR: 'it returns false'. Refute it at one input. -/
def rleTurnedWrong : ChangeSpec := { name := "rleTurned", fn := fun _ => fun
  | [d1, d2, d3, d4] => { results := [.lit (.bool false)], args := [d1, d2, d3, d4] }
  | _ => none }
def RleTurnedWrongFalsely : Prop := rleTurnedRow.holds Tryd.pinned (OpenSpec.ofChange rleTurnedWrong)

/-- 'rabbetlaw6.RleForms': WHATEVER THE INPUT: true; the input reads as it did. -/
def rleFormsSpec : ChangeSpec := { name := "rleForms", fn := fun _ => fun
  | [] => { results := [.lit (.bool true)], args := [] }
  | _ => none }
def rleFormsRow : OpenClaim := { program := "ytifejanbgobngaadoor", sum := "2fa9df9dd77721c211d9f18d32f3153f7eae61bfad3472c74178abf56771b979", func := "rabbet/rabbetlaw6.RleForms", spec := "rleForms", inPlace := ["internal/bytealg.abigen_runtime_cmpstring", "internal/reflectlite.TypeOf"], unfollowed := true, recurses := true, named := ["rabbet/fault.ErrValue", "rabbet/fault.ErrType", "rabbet/fault.ErrBound", "rabbet/fault.ErrSpare", "rabbet/fault.ErrShort", "rabbet/num.errNone"], apart := false, laid := [("rabbet/fault.ErrShort", laid_rabbet_fault_ErrShort), ("rabbet/fault.ErrSpare", laid_rabbet_fault_ErrSpare), ("rabbet/fault.ErrValue", laid_rabbet_fault_ErrValue), ("rabbet/fault.ErrType", laid_rabbet_fault_ErrType), ("rabbet/fault.ErrBound", laid_rabbet_fault_ErrBound), ("rabbet/num.errNone", laid_rabbet_num_errNone)] }
def RleFormsSaid : Prop := rleFormsRow.holds Tryd.pinned (OpenSpec.ofChange rleFormsSpec)

/-- ITS FALSE NEIGHBOUR: 'it returns false'. Refute it at one input. -/
def rleFormsWrong : ChangeSpec := { name := "rleForms", fn := fun _ => fun
  | [] => { results := [.lit (.bool false)], args := [] }
  | _ => none }
def RleFormsWrongFalsely : Prop := rleFormsRow.holds Tryd.pinned (OpenSpec.ofChange rleFormsWrong)

/-- 'rabbetlaw6.RleRuns': WHATEVER THE INPUT: true; the input reads as it did. -/
def rleRunsSpec : ChangeSpec := { name := "rleRuns", fn := fun _ => fun
  | [d1, d2] => { results := [.lit (.bool true)], args := [d1, d2] }
  | _ => none }
def rleRunsRow : OpenClaim := { program := "ytifejanbgobngaadoor", sum := "2fa9df9dd77721c211d9f18d32f3153f7eae61bfad3472c74178abf56771b979", func := "rabbet/rabbetlaw6.RleRuns", spec := "rleRuns", inPlace := ["internal/bytealg.abigen_runtime_cmpstring", "internal/reflectlite.TypeOf"], unfollowed := true, recurses := true, named := ["rabbet/fault.ErrValue", "rabbet/fault.ErrType", "rabbet/fault.ErrBound", "rabbet/fault.ErrSpare", "rabbet/fault.ErrShort", "rabbet/num.errNone"], apart := false, laid := [("rabbet/fault.ErrShort", laid_rabbet_fault_ErrShort), ("rabbet/fault.ErrSpare", laid_rabbet_fault_ErrSpare), ("rabbet/fault.ErrValue", laid_rabbet_fault_ErrValue), ("rabbet/fault.ErrType", laid_rabbet_fault_ErrType), ("rabbet/fault.ErrBound", laid_rabbet_fault_ErrBound), ("rabbet/num.errNone", laid_rabbet_num_errNone)] }
def RleRunsSaid : Prop := rleRunsRow.holds Tryd.pinned (OpenSpec.ofChange rleRunsSpec)

/-- ITS FALSE NEIGHBOUR: 'it returns false'. Refute it at one input. -/
def rleRunsWrong : ChangeSpec := { name := "rleRuns", fn := fun _ => fun
  | [d1, d2] => { results := [.lit (.bool false)], args := [d1, d2] }
  | _ => none }
def RleRunsWrongFalsely : Prop := rleRunsRow.holds Tryd.pinned (OpenSpec.ofChange rleRunsWrong)

/- THE SECOND FORM. 'bulk': how many values and letters a reading holds, each counted each time it is reached (what is shared counts as often as it is met; a slice's spare places count too). A statement '..UptoSaid' is the law's where the arguments, and the package variables that the reading takes, are together of bulk at most 1048576: NARROWER than '..Said'. Prove '..Said' where nothing that the law and all that it calls make is longer than what came in: it says more and counts as full. Else prove '..UptoSaid'. A law counts once. -/
mutual
def uptoBulk {H : Type} : DataW H → Nat
  | .lit (.string bytes) => bytes.length + 1
  | .lit _ => 1
  | .nil => 1
  | .ptr d => uptoBulk d + 1
  | .slice elems spare => uptoBulkAll elems + uptoBulkAll spare + 1
  | .agg parts => uptoBulkAll parts + 1
  | .iface _ d => uptoBulk d + 1
  | .map entries => uptoBulkEntries entries + 1
  | .held _ => 1
def uptoBulkAll {H : Type} : List (DataW H) → Nat
  | [] => 0
  | d :: r => uptoBulk d + uptoBulkAll r
def uptoBulkEntries {H : Type} : List (Lit × DataW H) → Nat
  | [] => 0
  | x :: r => uptoBulkEntry x + uptoBulkEntries r
def uptoBulkEntry {H : Type} : Lit × DataW H → Nat
  | (.string bytes, d) => bytes.length + uptoBulk d + 1
  | (_, d) => uptoBulk d + 1
 end
def uptoSmall : (H : Type) → List (DataW H) → Bool := fun _ ds => decide (uptoBulkAll ds ≤ 1048576)
def OpenSpec.upto (s : _root_.Go.ChangeSpec) : _root_.Go.OpenSpec := { _root_.Go.OpenSpec.ofChange s with cond := some uptoSmall }

/-- 'rabbetlaw5.PlainAll', WHERE WHAT IT READS IS OF BULK AT MOST 1048576: true; the input reads as it did. -/
def plainAllUptoRow : OpenClaim := { program := "ytifejanbgobngaadoor", sum := "2fa9df9dd77721c211d9f18d32f3153f7eae61bfad3472c74178abf56771b979", func := "rabbet/rabbetlaw5.PlainAll", spec := "plainAll", inPlace := ["internal/reflectlite.TypeOf"], unfollowed := true, recurses := true, named := ["rabbet/fault.ErrValue", "rabbet/fault.ErrType", "rabbet/fault.ErrBound", "rabbet/fault.ErrSpare", "rabbet/fault.ErrShort", "rabbet/num.errNone"], apart := false, laid := [("rabbet/fault.ErrShort", laid_rabbet_fault_ErrShort), ("rabbet/fault.ErrSpare", laid_rabbet_fault_ErrSpare), ("rabbet/fault.ErrValue", laid_rabbet_fault_ErrValue), ("rabbet/fault.ErrType", laid_rabbet_fault_ErrType), ("rabbet/fault.ErrBound", laid_rabbet_fault_ErrBound), ("rabbet/num.errNone", laid_rabbet_num_errNone)], narrowed := true }
def PlainAllUptoSaid : Prop := plainAllUptoRow.holds Tryd.pinned (OpenSpec.upto plainAllSpec)

/-- 'rabbetlaw5.PlainBack', WHERE WHAT IT READS IS OF BULK AT MOST 1048576: true; the input reads as it did. -/
def plainBackUptoRow : OpenClaim := { program := "ytifejanbgobngaadoor", sum := "2fa9df9dd77721c211d9f18d32f3153f7eae61bfad3472c74178abf56771b979", func := "rabbet/rabbetlaw5.PlainBack", spec := "plainBack", inPlace := ["internal/reflectlite.TypeOf"], unfollowed := true, recurses := true, named := ["rabbet/fault.ErrValue", "rabbet/fault.ErrType", "rabbet/fault.ErrBound", "rabbet/fault.ErrSpare", "rabbet/fault.ErrShort", "rabbet/num.errNone"], apart := false, laid := [("rabbet/fault.ErrShort", laid_rabbet_fault_ErrShort), ("rabbet/fault.ErrSpare", laid_rabbet_fault_ErrSpare), ("rabbet/fault.ErrValue", laid_rabbet_fault_ErrValue), ("rabbet/fault.ErrType", laid_rabbet_fault_ErrType), ("rabbet/fault.ErrBound", laid_rabbet_fault_ErrBound), ("rabbet/num.errNone", laid_rabbet_num_errNone)], narrowed := true }
def PlainBackUptoSaid : Prop := plainBackUptoRow.holds Tryd.pinned (OpenSpec.upto plainBackSpec)

/-- 'rabbetlaw5.PlainTurned', WHERE WHAT IT READS IS OF BULK AT MOST 1048576: true; the input reads as it did. -/
def plainTurnedUptoRow : OpenClaim := { program := "ytifejanbgobngaadoor", sum := "2fa9df9dd77721c211d9f18d32f3153f7eae61bfad3472c74178abf56771b979", func := "rabbet/rabbetlaw5.PlainTurned", spec := "plainTurned", inPlace := ["internal/reflectlite.TypeOf"], unfollowed := true, recurses := true, named := ["rabbet/fault.ErrValue", "rabbet/fault.ErrType", "rabbet/fault.ErrBound", "rabbet/fault.ErrSpare", "rabbet/fault.ErrShort", "rabbet/num.errNone"], apart := false, laid := [("rabbet/fault.ErrShort", laid_rabbet_fault_ErrShort), ("rabbet/fault.ErrSpare", laid_rabbet_fault_ErrSpare), ("rabbet/fault.ErrValue", laid_rabbet_fault_ErrValue), ("rabbet/fault.ErrType", laid_rabbet_fault_ErrType), ("rabbet/fault.ErrBound", laid_rabbet_fault_ErrBound), ("rabbet/num.errNone", laid_rabbet_num_errNone)], narrowed := true }
def PlainTurnedUptoSaid : Prop := plainTurnedUptoRow.holds Tryd.pinned (OpenSpec.upto plainTurnedSpec)

/-- 'rabbetlaw5.PlainForms', WHERE WHAT IT READS IS OF BULK AT MOST 1048576: true; the input reads as it did. -/
def plainFormsUptoRow : OpenClaim := { program := "ytifejanbgobngaadoor", sum := "2fa9df9dd77721c211d9f18d32f3153f7eae61bfad3472c74178abf56771b979", func := "rabbet/rabbetlaw5.PlainForms", spec := "plainForms", inPlace := ["internal/reflectlite.TypeOf"], unfollowed := true, recurses := true, named := ["rabbet/fault.ErrValue", "rabbet/fault.ErrType", "rabbet/fault.ErrBound", "rabbet/fault.ErrSpare", "rabbet/fault.ErrShort", "rabbet/num.errNone"], apart := false, laid := [("rabbet/fault.ErrShort", laid_rabbet_fault_ErrShort), ("rabbet/fault.ErrSpare", laid_rabbet_fault_ErrSpare), ("rabbet/fault.ErrValue", laid_rabbet_fault_ErrValue), ("rabbet/fault.ErrType", laid_rabbet_fault_ErrType), ("rabbet/fault.ErrBound", laid_rabbet_fault_ErrBound), ("rabbet/num.errNone", laid_rabbet_num_errNone)], narrowed := true }
def PlainFormsUptoSaid : Prop := plainFormsUptoRow.holds Tryd.pinned (OpenSpec.upto plainFormsSpec)

/-- 'rabbetlaw6.RleAll', WHERE WHAT IT READS IS OF BULK AT MOST 1048576: true; the input reads as it did. -/
def rleAllUptoRow : OpenClaim := { program := "ytifejanbgobngaadoor", sum := "2fa9df9dd77721c211d9f18d32f3153f7eae61bfad3472c74178abf56771b979", func := "rabbet/rabbetlaw6.RleAll", spec := "rleAll", inPlace := ["internal/bytealg.abigen_runtime_cmpstring", "internal/reflectlite.TypeOf"], unfollowed := true, recurses := true, named := ["rabbet/fault.ErrValue", "rabbet/fault.ErrType", "rabbet/fault.ErrBound", "rabbet/fault.ErrSpare", "rabbet/fault.ErrShort", "rabbet/num.errNone"], apart := false, laid := [("rabbet/fault.ErrShort", laid_rabbet_fault_ErrShort), ("rabbet/fault.ErrSpare", laid_rabbet_fault_ErrSpare), ("rabbet/fault.ErrValue", laid_rabbet_fault_ErrValue), ("rabbet/fault.ErrType", laid_rabbet_fault_ErrType), ("rabbet/fault.ErrBound", laid_rabbet_fault_ErrBound), ("rabbet/num.errNone", laid_rabbet_num_errNone)], narrowed := true }
def RleAllUptoSaid : Prop := rleAllUptoRow.holds Tryd.pinned (OpenSpec.upto rleAllSpec)

/-- 'rabbetlaw6.RleBack', WHERE WHAT IT READS IS OF BULK AT MOST 1048576: true; the input reads as it did. -/
def rleBackUptoRow : OpenClaim := { program := "ytifejanbgobngaadoor", sum := "2fa9df9dd77721c211d9f18d32f3153f7eae61bfad3472c74178abf56771b979", func := "rabbet/rabbetlaw6.RleBack", spec := "rleBack", inPlace := ["internal/bytealg.abigen_runtime_cmpstring", "internal/reflectlite.TypeOf"], unfollowed := true, recurses := true, named := ["rabbet/fault.ErrValue", "rabbet/fault.ErrType", "rabbet/fault.ErrBound", "rabbet/fault.ErrSpare", "rabbet/fault.ErrShort", "rabbet/num.errNone"], apart := false, laid := [("rabbet/fault.ErrShort", laid_rabbet_fault_ErrShort), ("rabbet/fault.ErrSpare", laid_rabbet_fault_ErrSpare), ("rabbet/fault.ErrValue", laid_rabbet_fault_ErrValue), ("rabbet/fault.ErrType", laid_rabbet_fault_ErrType), ("rabbet/fault.ErrBound", laid_rabbet_fault_ErrBound), ("rabbet/num.errNone", laid_rabbet_num_errNone)], narrowed := true }
def RleBackUptoSaid : Prop := rleBackUptoRow.holds Tryd.pinned (OpenSpec.upto rleBackSpec)

/-- 'rabbetlaw6.RleTurned', WHERE WHAT IT READS IS OF BULK AT MOST 1048576: true; the input reads as it did. -/
def rleTurnedUptoRow : OpenClaim := { program := "ytifejanbgobngaadoor", sum := "2fa9df9dd77721c211d9f18d32f3153f7eae61bfad3472c74178abf56771b979", func := "rabbet/rabbetlaw6.RleTurned", spec := "rleTurned", inPlace := ["internal/bytealg.abigen_runtime_cmpstring", "internal/reflectlite.TypeOf"], unfollowed := true, recurses := true, named := ["rabbet/fault.ErrValue", "rabbet/fault.ErrType", "rabbet/fault.ErrBound", "rabbet/fault.ErrSpare", "rabbet/fault.ErrShort", "rabbet/num.errNone"], apart := false, laid := [("rabbet/fault.ErrShort", laid_rabbet_fault_ErrShort), ("rabbet/fault.ErrSpare", laid_rabbet_fault_ErrSpare), ("rabbet/fault.ErrValue", laid_rabbet_fault_ErrValue), ("rabbet/fault.ErrType", laid_rabbet_fault_ErrType), ("rabbet/fault.ErrBound", laid_rabbet_fault_ErrBound), ("rabbet/num.errNone", laid_rabbet_num_errNone)], narrowed := true }
def RleTurnedUptoSaid : Prop := rleTurnedUptoRow.holds Tryd.pinned (OpenSpec.upto rleTurnedSpec)

/-- 'rabbetlaw6.RleForms', WHERE WHAT IT READS IS OF BULK AT MOST 1048576: true; the input reads as it did. -/
def rleFormsUptoRow : OpenClaim := { program := "ytifejanbgobngaadoor", sum := "2fa9df9dd77721c211d9f18d32f3153f7eae61bfad3472c74178abf56771b979", func := "rabbet/rabbetlaw6.RleForms", spec := "rleForms", inPlace := ["internal/bytealg.abigen_runtime_cmpstring", "internal/reflectlite.TypeOf"], unfollowed := true, recurses := true, named := ["rabbet/fault.ErrValue", "rabbet/fault.ErrType", "rabbet/fault.ErrBound", "rabbet/fault.ErrSpare", "rabbet/fault.ErrShort", "rabbet/num.errNone"], apart := false, laid := [("rabbet/fault.ErrShort", laid_rabbet_fault_ErrShort), ("rabbet/fault.ErrSpare", laid_rabbet_fault_ErrSpare), ("rabbet/fault.ErrValue", laid_rabbet_fault_ErrValue), ("rabbet/fault.ErrType", laid_rabbet_fault_ErrType), ("rabbet/fault.ErrBound", laid_rabbet_fault_ErrBound), ("rabbet/num.errNone", laid_rabbet_num_errNone)], narrowed := true }
def RleFormsUptoSaid : Prop := rleFormsUptoRow.holds Tryd.pinned (OpenSpec.upto rleFormsSpec)

/-- 'rabbetlaw6.RleRuns', WHERE WHAT IT READS IS OF BULK AT MOST 1048576: true; the input reads as it did. -/
def rleRunsUptoRow : OpenClaim := { program := "ytifejanbgobngaadoor", sum := "2fa9df9dd77721c211d9f18d32f3153f7eae61bfad3472c74178abf56771b979", func := "rabbet/rabbetlaw6.RleRuns", spec := "rleRuns", inPlace := ["internal/bytealg.abigen_runtime_cmpstring", "internal/reflectlite.TypeOf"], unfollowed := true, recurses := true, named := ["rabbet/fault.ErrValue", "rabbet/fault.ErrType", "rabbet/fault.ErrBound", "rabbet/fault.ErrSpare", "rabbet/fault.ErrShort", "rabbet/num.errNone"], apart := false, laid := [("rabbet/fault.ErrShort", laid_rabbet_fault_ErrShort), ("rabbet/fault.ErrSpare", laid_rabbet_fault_ErrSpare), ("rabbet/fault.ErrValue", laid_rabbet_fault_ErrValue), ("rabbet/fault.ErrType", laid_rabbet_fault_ErrType), ("rabbet/fault.ErrBound", laid_rabbet_fault_ErrBound), ("rabbet/num.errNone", laid_rabbet_num_errNone)], narrowed := true }
def RleRunsUptoSaid : Prop := rleRunsUptoRow.holds Tryd.pinned (OpenSpec.upto rleRunsSpec)

end Rows
end Go.Proofs.YtifejanbgobngaaDoor
