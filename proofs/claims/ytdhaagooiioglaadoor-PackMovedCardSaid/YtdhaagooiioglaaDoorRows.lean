/-
  NARROWER THAN 'FOR EVERY INPUT', by the rows' own cells (each row's printed sentence says how): PackAll: laid · PackBack: laid · PackTurned: laid · PackForms: laid · PackMoved: laid · DeltaAll: laid · DeltaBack: laid · DeltaTurned: laid · DeltaForms: laid · DeltaEven: laid.
  DERIVED. THE GIVEN ROWS OF THIS SEAT. 10 by the template 'for every input the law returns true; each argument reads behind the call as it read before'; 0 by the template 'total and deterministic' (their statements: YtdhaagooiioglaaDoorTotals.lean).
  GIVEN WITH THE SEED: the statements are not yours to turn. If you find one false, say at which input.
  Laid BY PROGRAM, IN A SANDBOX (cutbox-rows.mjs): the forced cells as the released guide's own fill.sh prints them over the translation af5ea817eabc4cfc… (all of the seat's roots in one cut). By AI agents, Wed Nov 11 2026. No macro, syntax, notation, axiom, sorry.
-/
import Derived.Test.YtdhaagooiioglaaDoorChecked
import GoSem.Claim
import GoSem.ClaimJoined
import GoSem.ClaimMapViews
import Derived.JoinedTies
import Derived.KernelRfl
namespace Go.Proofs.YtdhaagooiioglaaDoor
/- THE CELL 'sum', in the pinned program and in every row, IS THE sha256 OF THE DUMP (.gsa) THAT YtdhaagooiioglaaDoorProg.lean LOADS. Nothing in Lean hashes anything: it is a label: what it is worth is what the hold of that sum in a sandbox is worth. -/
noncomputable def Tryd.pinned : Pinned := { name := "ytdhaagooiioglaadoor", sum := "af5ea817eabc4cfc17174fd3f3c13f6f3ab6581d19bbd97581ea4dead464fdbb", checked := Tryd.checked }
namespace Rows
def none {H : Type} : Left H := { results := [], args := [] }

/- WHAT THE LISTED PACKAGE-LEVEL VARIABLES READ AS WHEN THE CALL BEGINS. Each datum BY PROGRAM (the guide's laid-datum.mjs) off the statement by which the dump's own 'gosem.cut.vars' lays the variable. In a bare row this is a premise. The card (YtdhaagooiioglaaDoorCards.lean) ties it to the program's text. -/
def laid_rabbet_fault_ErrShort {H : Type} : DataW H := .iface "*errors.errorString" (.ptr (.agg [.lit (.string [105, 116, 32, 101, 110, 100, 115, 32, 116, 111, 111, 32, 115, 111, 111, 110])]))
def laid_rabbet_fault_ErrSpare {H : Type} : DataW H := .iface "*errors.errorString" (.ptr (.agg [.lit (.string [116, 104, 101, 114, 101, 32, 105, 115, 32, 109, 111, 114, 101, 32, 116, 104, 97, 110, 32, 105, 116, 115, 32, 80, 117, 116, 32, 104, 97, 115])]))
def laid_rabbet_fault_ErrValue {H : Type} : DataW H := .iface "*errors.errorString" (.ptr (.agg [.lit (.string [105, 116, 32, 109, 97, 121, 32, 110, 111, 116, 32, 98, 101])]))
def laid_rabbet_fault_ErrType {H : Type} : DataW H := .iface "*errors.errorString" (.ptr (.agg [.lit (.string [105, 116, 32, 105, 115, 32, 111, 102, 32, 97, 110, 111, 116, 104, 101, 114, 32, 116, 121, 112, 101])]))
def laid_rabbet_fault_ErrBound {H : Type} : DataW H := .iface "*errors.errorString" (.ptr (.agg [.lit (.string [105, 116, 32, 105, 115, 32, 111, 117, 116, 32, 111, 102, 32, 98, 111, 117, 110, 100, 115])]))
def laid_rabbet_num_errNone {H : Type} : DataW H := .iface "*errors.errorString" (.ptr (.agg [.lit (.string [110, 111, 32, 110, 117, 109, 98, 101, 114])]))

/-- 'rabbetlaw8.PackAll': WHATEVER THE INPUT: true; the input reads as it did. -/
def packAllSpec : ChangeSpec := { name := "packAll", fn := fun _ => fun
  | [d1, d2, d3, d4, d5] => { results := [.lit (.bool true)], args := [d1, d2, d3, d4, d5] }
  | _ => none }
def packAllRow : OpenClaim := { program := "ytdhaagooiioglaadoor", sum := "af5ea817eabc4cfc17174fd3f3c13f6f3ab6581d19bbd97581ea4dead464fdbb", func := "rabbet/rabbetlaw8.PackAll", spec := "packAll", inPlace := ["internal/reflectlite.TypeOf"], unfollowed := true, recurses := true, named := ["rabbet/fault.ErrType", "rabbet/fault.ErrBound", "rabbet/fault.ErrValue", "rabbet/fault.ErrShort", "rabbet/num.errNone", "rabbet/fault.ErrSpare"], apart := false, laid := [("rabbet/fault.ErrShort", laid_rabbet_fault_ErrShort), ("rabbet/fault.ErrSpare", laid_rabbet_fault_ErrSpare), ("rabbet/fault.ErrValue", laid_rabbet_fault_ErrValue), ("rabbet/fault.ErrType", laid_rabbet_fault_ErrType), ("rabbet/fault.ErrBound", laid_rabbet_fault_ErrBound), ("rabbet/num.errNone", laid_rabbet_num_errNone)] }
def PackAllSaid : Prop := packAllRow.holds Tryd.pinned (OpenSpec.ofChange packAllSpec)

/-- ITS FALSE NEIGHBOUR: 'it returns false'. Refute it at one input. -/
def packAllWrong : ChangeSpec := { name := "packAll", fn := fun _ => fun
  | [d1, d2, d3, d4, d5] => { results := [.lit (.bool false)], args := [d1, d2, d3, d4, d5] }
  | _ => none }
def PackAllWrongFalsely : Prop := packAllRow.holds Tryd.pinned (OpenSpec.ofChange packAllWrong)

/-- 'rabbetlaw8.PackBack': WHATEVER THE INPUT: true; the input reads as it did. -/
def packBackSpec : ChangeSpec := { name := "packBack", fn := fun _ => fun
  | [d1, d2, d3, d4] => { results := [.lit (.bool true)], args := [d1, d2, d3, d4] }
  | _ => none }
def packBackRow : OpenClaim := { program := "ytdhaagooiioglaadoor", sum := "af5ea817eabc4cfc17174fd3f3c13f6f3ab6581d19bbd97581ea4dead464fdbb", func := "rabbet/rabbetlaw8.PackBack", spec := "packBack", inPlace := ["internal/reflectlite.TypeOf"], unfollowed := true, recurses := true, named := ["rabbet/fault.ErrType", "rabbet/fault.ErrBound", "rabbet/fault.ErrValue", "rabbet/fault.ErrShort", "rabbet/num.errNone", "rabbet/fault.ErrSpare"], apart := false, laid := [("rabbet/fault.ErrShort", laid_rabbet_fault_ErrShort), ("rabbet/fault.ErrSpare", laid_rabbet_fault_ErrSpare), ("rabbet/fault.ErrValue", laid_rabbet_fault_ErrValue), ("rabbet/fault.ErrType", laid_rabbet_fault_ErrType), ("rabbet/fault.ErrBound", laid_rabbet_fault_ErrBound), ("rabbet/num.errNone", laid_rabbet_num_errNone)] }
def PackBackSaid : Prop := packBackRow.holds Tryd.pinned (OpenSpec.ofChange packBackSpec)

/-- ITS FALSE NEIGHBOUR: 'it returns false'. Refute it at one input. -/
def packBackWrong : ChangeSpec := { name := "packBack", fn := fun _ => fun
  | [d1, d2, d3, d4] => { results := [.lit (.bool false)], args := [d1, d2, d3, d4] }
  | _ => none }
def PackBackWrongFalsely : Prop := packBackRow.holds Tryd.pinned (OpenSpec.ofChange packBackWrong)

/-- 'rabbetlaw8.PackTurned': WHATEVER THE INPUT: true; the input reads as it did. -/
def packTurnedSpec : ChangeSpec := { name := "packTurned", fn := fun _ => fun
  | [d1, d2, d3, d4] => { results := [.lit (.bool true)], args := [d1, d2, d3, d4] }
  | _ => none }
def packTurnedRow : OpenClaim := { program := "ytdhaagooiioglaadoor", sum := "af5ea817eabc4cfc17174fd3f3c13f6f3ab6581d19bbd97581ea4dead464fdbb", func := "rabbet/rabbetlaw8.PackTurned", spec := "packTurned", inPlace := ["internal/reflectlite.TypeOf"], unfollowed := true, recurses := true, named := ["rabbet/fault.ErrType", "rabbet/fault.ErrBound", "rabbet/fault.ErrValue", "rabbet/fault.ErrShort", "rabbet/num.errNone", "rabbet/fault.ErrSpare"], apart := false, laid := [("rabbet/fault.ErrShort", laid_rabbet_fault_ErrShort), ("rabbet/fault.ErrSpare", laid_rabbet_fault_ErrSpare), ("rabbet/fault.ErrValue", laid_rabbet_fault_ErrValue), ("rabbet/fault.ErrType", laid_rabbet_fault_ErrType), ("rabbet/fault.ErrBound", laid_rabbet_fault_ErrBound), ("rabbet/num.errNone", laid_rabbet_num_errNone)] }
def PackTurnedSaid : Prop := packTurnedRow.holds Tryd.pinned (OpenSpec.ofChange packTurnedSpec)

/-- ITS FALSE NEIGHBOUR: 'it returns false'. Refute it at one input. -/
def packTurnedWrong : ChangeSpec := { name := "packTurned", fn := fun _ => fun
  | [d1, d2, d3, d4] => { results := [.lit (.bool false)], args := [d1, d2, d3, d4] }
  | _ => none }
def PackTurnedWrongFalsely : Prop := packTurnedRow.holds Tryd.pinned (OpenSpec.ofChange packTurnedWrong)

/-- 'rabbetlaw8.PackForms': WHATEVER THE INPUT: true; the input reads as it did. -/
def packFormsSpec : ChangeSpec := { name := "packForms", fn := fun _ => fun
  | [] => { results := [.lit (.bool true)], args := [] }
  | _ => none }
def packFormsRow : OpenClaim := { program := "ytdhaagooiioglaadoor", sum := "af5ea817eabc4cfc17174fd3f3c13f6f3ab6581d19bbd97581ea4dead464fdbb", func := "rabbet/rabbetlaw8.PackForms", spec := "packForms", inPlace := ["internal/reflectlite.TypeOf"], unfollowed := true, recurses := true, named := ["rabbet/fault.ErrType", "rabbet/fault.ErrBound", "rabbet/fault.ErrValue", "rabbet/fault.ErrShort", "rabbet/num.errNone", "rabbet/fault.ErrSpare"], apart := false, laid := [("rabbet/fault.ErrShort", laid_rabbet_fault_ErrShort), ("rabbet/fault.ErrSpare", laid_rabbet_fault_ErrSpare), ("rabbet/fault.ErrValue", laid_rabbet_fault_ErrValue), ("rabbet/fault.ErrType", laid_rabbet_fault_ErrType), ("rabbet/fault.ErrBound", laid_rabbet_fault_ErrBound), ("rabbet/num.errNone", laid_rabbet_num_errNone)] }
def PackFormsSaid : Prop := packFormsRow.holds Tryd.pinned (OpenSpec.ofChange packFormsSpec)

/-- ITS FALSE NEIGHBOUR: 'it returns false'. Refute it at one input. -/
def packFormsWrong : ChangeSpec := { name := "packForms", fn := fun _ => fun
  | [] => { results := [.lit (.bool false)], args := [] }
  | _ => none }
def PackFormsWrongFalsely : Prop := packFormsRow.holds Tryd.pinned (OpenSpec.ofChange packFormsWrong)

/-- 'rabbetlaw8.PackMoved': WHATEVER THE INPUT: true; the input reads as it did. -/
def packMovedSpec : ChangeSpec := { name := "packMoved", fn := fun _ => fun
  | [d1, d2] => { results := [.lit (.bool true)], args := [d1, d2] }
  | _ => none }
def packMovedRow : OpenClaim := { program := "ytdhaagooiioglaadoor", sum := "af5ea817eabc4cfc17174fd3f3c13f6f3ab6581d19bbd97581ea4dead464fdbb", func := "rabbet/rabbetlaw8.PackMoved", spec := "packMoved", inPlace := ["internal/reflectlite.TypeOf"], unfollowed := true, recurses := true, named := ["rabbet/fault.ErrType", "rabbet/fault.ErrBound", "rabbet/fault.ErrValue", "rabbet/fault.ErrShort", "rabbet/num.errNone", "rabbet/fault.ErrSpare"], apart := false, laid := [("rabbet/fault.ErrShort", laid_rabbet_fault_ErrShort), ("rabbet/fault.ErrSpare", laid_rabbet_fault_ErrSpare), ("rabbet/fault.ErrValue", laid_rabbet_fault_ErrValue), ("rabbet/fault.ErrType", laid_rabbet_fault_ErrType), ("rabbet/fault.ErrBound", laid_rabbet_fault_ErrBound), ("rabbet/num.errNone", laid_rabbet_num_errNone)] }
def PackMovedSaid : Prop := packMovedRow.holds Tryd.pinned (OpenSpec.ofChange packMovedSpec)

/-- ITS FALSE NEIGHBOUR: 'it returns false'. Refute it at one input. -/
def packMovedWrong : ChangeSpec := { name := "packMoved", fn := fun _ => fun
  | [d1, d2] => { results := [.lit (.bool false)], args := [d1, d2] }
  | _ => none }
def PackMovedWrongFalsely : Prop := packMovedRow.holds Tryd.pinned (OpenSpec.ofChange packMovedWrong)

/-- 'rabbetlaw9.DeltaAll': WHATEVER THE INPUT: true; the input reads as it did. -/
def deltaAllSpec : ChangeSpec := { name := "deltaAll", fn := fun _ => fun
  | [d1, d2, d3, d4, d5] => { results := [.lit (.bool true)], args := [d1, d2, d3, d4, d5] }
  | _ => none }
def deltaAllRow : OpenClaim := { program := "ytdhaagooiioglaadoor", sum := "af5ea817eabc4cfc17174fd3f3c13f6f3ab6581d19bbd97581ea4dead464fdbb", func := "rabbet/rabbetlaw9.DeltaAll", spec := "deltaAll", inPlace := ["internal/reflectlite.TypeOf"], unfollowed := true, recurses := true, named := ["rabbet/fault.ErrType", "rabbet/fault.ErrValue", "rabbet/fault.ErrBound", "rabbet/fault.ErrShort", "rabbet/fault.ErrSpare", "rabbet/num.errNone"], apart := false, laid := [("rabbet/fault.ErrShort", laid_rabbet_fault_ErrShort), ("rabbet/fault.ErrSpare", laid_rabbet_fault_ErrSpare), ("rabbet/fault.ErrValue", laid_rabbet_fault_ErrValue), ("rabbet/fault.ErrType", laid_rabbet_fault_ErrType), ("rabbet/fault.ErrBound", laid_rabbet_fault_ErrBound), ("rabbet/num.errNone", laid_rabbet_num_errNone)] }
def DeltaAllSaid : Prop := deltaAllRow.holds Tryd.pinned (OpenSpec.ofChange deltaAllSpec)

/-- ITS FALSE NEIGHBOUR: 'it returns false'. Refute it at one input. -/
def deltaAllWrong : ChangeSpec := { name := "deltaAll", fn := fun _ => fun
  | [d1, d2, d3, d4, d5] => { results := [.lit (.bool false)], args := [d1, d2, d3, d4, d5] }
  | _ => none }
def DeltaAllWrongFalsely : Prop := deltaAllRow.holds Tryd.pinned (OpenSpec.ofChange deltaAllWrong)

/-- 'rabbetlaw9.DeltaBack': WHATEVER THE INPUT: true; the input reads as it did. -/
def deltaBackSpec : ChangeSpec := { name := "deltaBack", fn := fun _ => fun
  | [d1, d2, d3, d4] => { results := [.lit (.bool true)], args := [d1, d2, d3, d4] }
  | _ => none }
def deltaBackRow : OpenClaim := { program := "ytdhaagooiioglaadoor", sum := "af5ea817eabc4cfc17174fd3f3c13f6f3ab6581d19bbd97581ea4dead464fdbb", func := "rabbet/rabbetlaw9.DeltaBack", spec := "deltaBack", inPlace := ["internal/reflectlite.TypeOf"], unfollowed := true, recurses := true, named := ["rabbet/fault.ErrType", "rabbet/fault.ErrValue", "rabbet/fault.ErrBound", "rabbet/fault.ErrShort", "rabbet/fault.ErrSpare", "rabbet/num.errNone"], apart := false, laid := [("rabbet/fault.ErrShort", laid_rabbet_fault_ErrShort), ("rabbet/fault.ErrSpare", laid_rabbet_fault_ErrSpare), ("rabbet/fault.ErrValue", laid_rabbet_fault_ErrValue), ("rabbet/fault.ErrType", laid_rabbet_fault_ErrType), ("rabbet/fault.ErrBound", laid_rabbet_fault_ErrBound), ("rabbet/num.errNone", laid_rabbet_num_errNone)] }
def DeltaBackSaid : Prop := deltaBackRow.holds Tryd.pinned (OpenSpec.ofChange deltaBackSpec)

/-- ITS FALSE NEIGHBOUR: 'it returns false'. Refute it at one input. -/
def deltaBackWrong : ChangeSpec := { name := "deltaBack", fn := fun _ => fun
  | [d1, d2, d3, d4] => { results := [.lit (.bool false)], args := [d1, d2, d3, d4] }
  | _ => none }
def DeltaBackWrongFalsely : Prop := deltaBackRow.holds Tryd.pinned (OpenSpec.ofChange deltaBackWrong)

/-- 'rabbetlaw9.DeltaTurned': WHATEVER THE INPUT: true; the input reads as it did. -/
def deltaTurnedSpec : ChangeSpec := { name := "deltaTurned", fn := fun _ => fun
  | [d1, d2, d3, d4] => { results := [.lit (.bool true)], args := [d1, d2, d3, d4] }
  | _ => none }
def deltaTurnedRow : OpenClaim := { program := "ytdhaagooiioglaadoor", sum := "af5ea817eabc4cfc17174fd3f3c13f6f3ab6581d19bbd97581ea4dead464fdbb", func := "rabbet/rabbetlaw9.DeltaTurned", spec := "deltaTurned", inPlace := ["internal/reflectlite.TypeOf"], unfollowed := true, recurses := true, named := ["rabbet/fault.ErrType", "rabbet/fault.ErrValue", "rabbet/fault.ErrBound", "rabbet/fault.ErrShort", "rabbet/fault.ErrSpare", "rabbet/num.errNone"], apart := false, laid := [("rabbet/fault.ErrShort", laid_rabbet_fault_ErrShort), ("rabbet/fault.ErrSpare", laid_rabbet_fault_ErrSpare), ("rabbet/fault.ErrValue", laid_rabbet_fault_ErrValue), ("rabbet/fault.ErrType", laid_rabbet_fault_ErrType), ("rabbet/fault.ErrBound", laid_rabbet_fault_ErrBound), ("rabbet/num.errNone", laid_rabbet_num_errNone)] }
def DeltaTurnedSaid : Prop := deltaTurnedRow.holds Tryd.pinned (OpenSpec.ofChange deltaTurnedSpec)

/-- ITS FALSE NEIGHBOUR: 'it returns false'. Refute it at one input. -/
def deltaTurnedWrong : ChangeSpec := { name := "deltaTurned", fn := fun _ => fun
  | [d1, d2, d3, d4] => { results := [.lit (.bool false)], args := [d1, d2, d3, d4] }
  | _ => none }
def DeltaTurnedWrongFalsely : Prop := deltaTurnedRow.holds Tryd.pinned (OpenSpec.ofChange deltaTurnedWrong)

/-- 'rabbetlaw9.DeltaForms': WHATEVER THE INPUT: true; the input reads as it did. -/
def deltaFormsSpec : ChangeSpec := { name := "deltaForms", fn := fun _ => fun
  | [] => { results := [.lit (.bool true)], args := [] }
  | _ => none }
def deltaFormsRow : OpenClaim := { program := "ytdhaagooiioglaadoor", sum := "af5ea817eabc4cfc17174fd3f3c13f6f3ab6581d19bbd97581ea4dead464fdbb", func := "rabbet/rabbetlaw9.DeltaForms", spec := "deltaForms", inPlace := ["internal/reflectlite.TypeOf"], unfollowed := true, recurses := true, named := ["rabbet/fault.ErrType", "rabbet/fault.ErrValue", "rabbet/fault.ErrBound", "rabbet/fault.ErrShort", "rabbet/fault.ErrSpare", "rabbet/num.errNone"], apart := false, laid := [("rabbet/fault.ErrShort", laid_rabbet_fault_ErrShort), ("rabbet/fault.ErrSpare", laid_rabbet_fault_ErrSpare), ("rabbet/fault.ErrValue", laid_rabbet_fault_ErrValue), ("rabbet/fault.ErrType", laid_rabbet_fault_ErrType), ("rabbet/fault.ErrBound", laid_rabbet_fault_ErrBound), ("rabbet/num.errNone", laid_rabbet_num_errNone)] }
def DeltaFormsSaid : Prop := deltaFormsRow.holds Tryd.pinned (OpenSpec.ofChange deltaFormsSpec)

/-- ITS FALSE NEIGHBOUR: 'it returns false'. Refute it at one input. -/
def deltaFormsWrong : ChangeSpec := { name := "deltaForms", fn := fun _ => fun
  | [] => { results := [.lit (.bool false)], args := [] }
  | _ => none }
def DeltaFormsWrongFalsely : Prop := deltaFormsRow.holds Tryd.pinned (OpenSpec.ofChange deltaFormsWrong)

/-- 'rabbetlaw9.DeltaEven': WHATEVER THE INPUT: true; the input reads as it did. -/
def deltaEvenSpec : ChangeSpec := { name := "deltaEven", fn := fun _ => fun
  | [d1, d2, d3] => { results := [.lit (.bool true)], args := [d1, d2, d3] }
  | _ => none }
def deltaEvenRow : OpenClaim := { program := "ytdhaagooiioglaadoor", sum := "af5ea817eabc4cfc17174fd3f3c13f6f3ab6581d19bbd97581ea4dead464fdbb", func := "rabbet/rabbetlaw9.DeltaEven", spec := "deltaEven", inPlace := ["internal/reflectlite.TypeOf"], unfollowed := true, recurses := true, named := ["rabbet/fault.ErrType", "rabbet/fault.ErrValue", "rabbet/fault.ErrBound", "rabbet/fault.ErrShort", "rabbet/fault.ErrSpare", "rabbet/num.errNone"], apart := false, laid := [("rabbet/fault.ErrShort", laid_rabbet_fault_ErrShort), ("rabbet/fault.ErrSpare", laid_rabbet_fault_ErrSpare), ("rabbet/fault.ErrValue", laid_rabbet_fault_ErrValue), ("rabbet/fault.ErrType", laid_rabbet_fault_ErrType), ("rabbet/fault.ErrBound", laid_rabbet_fault_ErrBound), ("rabbet/num.errNone", laid_rabbet_num_errNone)] }
def DeltaEvenSaid : Prop := deltaEvenRow.holds Tryd.pinned (OpenSpec.ofChange deltaEvenSpec)

/-- ITS FALSE NEIGHBOUR: 'it returns false'. Refute it at one input. -/
def deltaEvenWrong : ChangeSpec := { name := "deltaEven", fn := fun _ => fun
  | [d1, d2, d3] => { results := [.lit (.bool false)], args := [d1, d2, d3] }
  | _ => none }
def DeltaEvenWrongFalsely : Prop := deltaEvenRow.holds Tryd.pinned (OpenSpec.ofChange deltaEvenWrong)

/- THE SECOND FORM. 'bulk': how many values and letters a reading holds, each counted each time it is reached (what is shared counts as often as it is met; a slice's spare places count too). A statement '..UptoSaid' is the law's where the arguments, and the package variables that the reading takes, are together of bulk at most 1048576: NARROWER than '..Said'. Prove '..Said' where nothing that the law and all that it calls make is longer than what came in: it says more and counts as full. Else prove '..UptoSaid'. A law counts once. -/
mutual
def uptoBulk {H : Type} : DataW H → Nat
  | .lit (.string bytes) => bytes.length + 1
  | .lit _ => 1
  | .nil => 1
  | .ptr d => uptoBulk d + 1
  | .slice elems spare => uptoBulkAll elems + uptoBulkAll spare + 1
  | .agg parts => uptoBulkAll parts + 1
  | .iface _ d => uptoBulk d + 1
  | .map entries => uptoBulkEntries entries + 1
  | .held _ => 1
def uptoBulkAll {H : Type} : List (DataW H) → Nat
  | [] => 0
  | d :: r => uptoBulk d + uptoBulkAll r
def uptoBulkEntries {H : Type} : List (Lit × DataW H) → Nat
  | [] => 0
  | x :: r => uptoBulkEntry x + uptoBulkEntries r
def uptoBulkEntry {H : Type} : Lit × DataW H → Nat
  | (.string bytes, d) => bytes.length + uptoBulk d + 1
  | (_, d) => uptoBulk d + 1
 end
def uptoSmall : (H : Type) → List (DataW H) → Bool := fun _ ds => decide (uptoBulkAll ds ≤ 1048576)
def OpenSpec.upto (s : _root_.Go.ChangeSpec) : _root_.Go.OpenSpec := { _root_.Go.OpenSpec.ofChange s with cond := some uptoSmall }

/-- 'rabbetlaw8.PackAll', WHERE WHAT IT READS IS OF BULK AT MOST 1048576: true; the input reads as it did. -/
def packAllUptoRow : OpenClaim := { program := "ytdhaagooiioglaadoor", sum := "af5ea817eabc4cfc17174fd3f3c13f6f3ab6581d19bbd97581ea4dead464fdbb", func := "rabbet/rabbetlaw8.PackAll", spec := "packAll", inPlace := ["internal/reflectlite.TypeOf"], unfollowed := true, recurses := true, named := ["rabbet/fault.ErrType", "rabbet/fault.ErrBound", "rabbet/fault.ErrValue", "rabbet/fault.ErrShort", "rabbet/num.errNone", "rabbet/fault.ErrSpare"], apart := false, laid := [("rabbet/fault.ErrShort", laid_rabbet_fault_ErrShort), ("rabbet/fault.ErrSpare", laid_rabbet_fault_ErrSpare), ("rabbet/fault.ErrValue", laid_rabbet_fault_ErrValue), ("rabbet/fault.ErrType", laid_rabbet_fault_ErrType), ("rabbet/fault.ErrBound", laid_rabbet_fault_ErrBound), ("rabbet/num.errNone", laid_rabbet_num_errNone)], narrowed := true }
def PackAllUptoSaid : Prop := packAllUptoRow.holds Tryd.pinned (OpenSpec.upto packAllSpec)

/-- 'rabbetlaw8.PackBack', WHERE WHAT IT READS IS OF BULK AT MOST 1048576: true; the input reads as it did. -/
def packBackUptoRow : OpenClaim := { program := "ytdhaagooiioglaadoor", sum := "af5ea817eabc4cfc17174fd3f3c13f6f3ab6581d19bbd97581ea4dead464fdbb", func := "rabbet/rabbetlaw8.PackBack", spec := "packBack", inPlace := ["internal/reflectlite.TypeOf"], unfollowed := true, recurses := true, named := ["rabbet/fault.ErrType", "rabbet/fault.ErrBound", "rabbet/fault.ErrValue", "rabbet/fault.ErrShort", "rabbet/num.errNone", "rabbet/fault.ErrSpare"], apart := false, laid := [("rabbet/fault.ErrShort", laid_rabbet_fault_ErrShort), ("rabbet/fault.ErrSpare", laid_rabbet_fault_ErrSpare), ("rabbet/fault.ErrValue", laid_rabbet_fault_ErrValue), ("rabbet/fault.ErrType", laid_rabbet_fault_ErrType), ("rabbet/fault.ErrBound", laid_rabbet_fault_ErrBound), ("rabbet/num.errNone", laid_rabbet_num_errNone)], narrowed := true }
def PackBackUptoSaid : Prop := packBackUptoRow.holds Tryd.pinned (OpenSpec.upto packBackSpec)

/-- 'rabbetlaw8.PackTurned', WHERE WHAT IT READS IS OF BULK AT MOST 1048576: true; the input reads as it did. -/
def packTurnedUptoRow : OpenClaim := { program := "ytdhaagooiioglaadoor", sum := "af5ea817eabc4cfc17174fd3f3c13f6f3ab6581d19bbd97581ea4dead464fdbb", func := "rabbet/rabbetlaw8.PackTurned", spec := "packTurned", inPlace := ["internal/reflectlite.TypeOf"], unfollowed := true, recurses := true, named := ["rabbet/fault.ErrType", "rabbet/fault.ErrBound", "rabbet/fault.ErrValue", "rabbet/fault.ErrShort", "rabbet/num.errNone", "rabbet/fault.ErrSpare"], apart := false, laid := [("rabbet/fault.ErrShort", laid_rabbet_fault_ErrShort), ("rabbet/fault.ErrSpare", laid_rabbet_fault_ErrSpare), ("rabbet/fault.ErrValue", laid_rabbet_fault_ErrValue), ("rabbet/fault.ErrType", laid_rabbet_fault_ErrType), ("rabbet/fault.ErrBound", laid_rabbet_fault_ErrBound), ("rabbet/num.errNone", laid_rabbet_num_errNone)], narrowed := true }
def PackTurnedUptoSaid : Prop := packTurnedUptoRow.holds Tryd.pinned (OpenSpec.upto packTurnedSpec)

/-- 'rabbetlaw8.PackForms', WHERE WHAT IT READS IS OF BULK AT MOST 1048576: true; the input reads as it did. -/
def packFormsUptoRow : OpenClaim := { program := "ytdhaagooiioglaadoor", sum := "af5ea817eabc4cfc17174fd3f3c13f6f3ab6581d19bbd97581ea4dead464fdbb", func := "rabbet/rabbetlaw8.PackForms", spec := "packForms", inPlace := ["internal/reflectlite.TypeOf"], unfollowed := true, recurses := true, named := ["rabbet/fault.ErrType", "rabbet/fault.ErrBound", "rabbet/fault.ErrValue", "rabbet/fault.ErrShort", "rabbet/num.errNone", "rabbet/fault.ErrSpare"], apart := false, laid := [("rabbet/fault.ErrShort", laid_rabbet_fault_ErrShort), ("rabbet/fault.ErrSpare", laid_rabbet_fault_ErrSpare), ("rabbet/fault.ErrValue", laid_rabbet_fault_ErrValue), ("rabbet/fault.ErrType", laid_rabbet_fault_ErrType), ("rabbet/fault.ErrBound", laid_rabbet_fault_ErrBound), ("rabbet/num.errNone", laid_rabbet_num_errNone)], narrowed := true }
def PackFormsUptoSaid : Prop := packFormsUptoRow.holds Tryd.pinned (OpenSpec.upto packFormsSpec)

/-- 'rabbetlaw8.PackMoved', WHERE WHAT IT READS IS OF BULK AT MOST 1048576: true; the input reads as it did. -/
def packMovedUptoRow : OpenClaim := { program := "ytdhaagooiioglaadoor", sum := "af5ea817eabc4cfc17174fd3f3c13f6f3ab6581d19bbd97581ea4dead464fdbb", func := "rabbet/rabbetlaw8.PackMoved", spec := "packMoved", inPlace := ["internal/reflectlite.TypeOf"], unfollowed := true, recurses := true, named := ["rabbet/fault.ErrType", "rabbet/fault.ErrBound", "rabbet/fault.ErrValue", "rabbet/fault.ErrShort", "rabbet/num.errNone", "rabbet/fault.ErrSpare"], apart := false, laid := [("rabbet/fault.ErrShort", laid_rabbet_fault_ErrShort), ("rabbet/fault.ErrSpare", laid_rabbet_fault_ErrSpare), ("rabbet/fault.ErrValue", laid_rabbet_fault_ErrValue), ("rabbet/fault.ErrType", laid_rabbet_fault_ErrType), ("rabbet/fault.ErrBound", laid_rabbet_fault_ErrBound), ("rabbet/num.errNone", laid_rabbet_num_errNone)], narrowed := true }
def PackMovedUptoSaid : Prop := packMovedUptoRow.holds Tryd.pinned (OpenSpec.upto packMovedSpec)

/-- 'rabbetlaw9.DeltaAll', WHERE WHAT IT READS IS OF BULK AT MOST 1048576: true; the input reads as it did. -/
def deltaAllUptoRow : OpenClaim := { program := "ytdhaagooiioglaadoor", sum := "af5ea817eabc4cfc17174fd3f3c13f6f3ab6581d19bbd97581ea4dead464fdbb", func := "rabbet/rabbetlaw9.DeltaAll", spec := "deltaAll", inPlace := ["internal/reflectlite.TypeOf"], unfollowed := true, recurses := true, named := ["rabbet/fault.ErrType", "rabbet/fault.ErrValue", "rabbet/fault.ErrBound", "rabbet/fault.ErrShort", "rabbet/fault.ErrSpare", "rabbet/num.errNone"], apart := false, laid := [("rabbet/fault.ErrShort", laid_rabbet_fault_ErrShort), ("rabbet/fault.ErrSpare", laid_rabbet_fault_ErrSpare), ("rabbet/fault.ErrValue", laid_rabbet_fault_ErrValue), ("rabbet/fault.ErrType", laid_rabbet_fault_ErrType), ("rabbet/fault.ErrBound", laid_rabbet_fault_ErrBound), ("rabbet/num.errNone", laid_rabbet_num_errNone)], narrowed := true }
def DeltaAllUptoSaid : Prop := deltaAllUptoRow.holds Tryd.pinned (OpenSpec.upto deltaAllSpec)

/-- 'rabbetlaw9.DeltaBack', WHERE WHAT IT READS IS OF BULK AT MOST 1048576: true; the input reads as it did. -/
def deltaBackUptoRow : OpenClaim := { program := "ytdhaagooiioglaadoor", sum := "af5ea817eabc4cfc17174fd3f3c13f6f3ab6581d19bbd97581ea4dead464fdbb", func := "rabbet/rabbetlaw9.DeltaBack", spec := "deltaBack", inPlace := ["internal/reflectlite.TypeOf"], unfollowed := true, recurses := true, named := ["rabbet/fault.ErrType", "rabbet/fault.ErrValue", "rabbet/fault.ErrBound", "rabbet/fault.ErrShort", "rabbet/fault.ErrSpare", "rabbet/num.errNone"], apart := false, laid := [("rabbet/fault.ErrShort", laid_rabbet_fault_ErrShort), ("rabbet/fault.ErrSpare", laid_rabbet_fault_ErrSpare), ("rabbet/fault.ErrValue", laid_rabbet_fault_ErrValue), ("rabbet/fault.ErrType", laid_rabbet_fault_ErrType), ("rabbet/fault.ErrBound", laid_rabbet_fault_ErrBound), ("rabbet/num.errNone", laid_rabbet_num_errNone)], narrowed := true }
def DeltaBackUptoSaid : Prop := deltaBackUptoRow.holds Tryd.pinned (OpenSpec.upto deltaBackSpec)

/-- 'rabbetlaw9.DeltaTurned', WHERE WHAT IT READS IS OF BULK AT MOST 1048576: true; the input reads as it did. -/
def deltaTurnedUptoRow : OpenClaim := { program := "ytdhaagooiioglaadoor", sum := "af5ea817eabc4cfc17174fd3f3c13f6f3ab6581d19bbd97581ea4dead464fdbb", func := "rabbet/rabbetlaw9.DeltaTurned", spec := "deltaTurned", inPlace := ["internal/reflectlite.TypeOf"], unfollowed := true, recurses := true, named := ["rabbet/fault.ErrType", "rabbet/fault.ErrValue", "rabbet/fault.ErrBound", "rabbet/fault.ErrShort", "rabbet/fault.ErrSpare", "rabbet/num.errNone"], apart := false, laid := [("rabbet/fault.ErrShort", laid_rabbet_fault_ErrShort), ("rabbet/fault.ErrSpare", laid_rabbet_fault_ErrSpare), ("rabbet/fault.ErrValue", laid_rabbet_fault_ErrValue), ("rabbet/fault.ErrType", laid_rabbet_fault_ErrType), ("rabbet/fault.ErrBound", laid_rabbet_fault_ErrBound), ("rabbet/num.errNone", laid_rabbet_num_errNone)], narrowed := true }
def DeltaTurnedUptoSaid : Prop := deltaTurnedUptoRow.holds Tryd.pinned (OpenSpec.upto deltaTurnedSpec)

/-- 'rabbetlaw9.DeltaForms', WHERE WHAT IT READS IS OF BULK AT MOST 1048576: true; the input reads as it did. -/
def deltaFormsUptoRow : OpenClaim := { program := "ytdhaagooiioglaadoor", sum := "af5ea817eabc4cfc17174fd3f3c13f6f3ab6581d19bbd97581ea4dead464fdbb", func := "rabbet/rabbetlaw9.DeltaForms", spec := "deltaForms", inPlace := ["internal/reflectlite.TypeOf"], unfollowed := true, recurses := true, named := ["rabbet/fault.ErrType", "rabbet/fault.ErrValue", "rabbet/fault.ErrBound", "rabbet/fault.ErrShort", "rabbet/fault.ErrSpare", "rabbet/num.errNone"], apart := false, laid := [("rabbet/fault.ErrShort", laid_rabbet_fault_ErrShort), ("rabbet/fault.ErrSpare", laid_rabbet_fault_ErrSpare), ("rabbet/fault.ErrValue", laid_rabbet_fault_ErrValue), ("rabbet/fault.ErrType", laid_rabbet_fault_ErrType), ("rabbet/fault.ErrBound", laid_rabbet_fault_ErrBound), ("rabbet/num.errNone", laid_rabbet_num_errNone)], narrowed := true }
def DeltaFormsUptoSaid : Prop := deltaFormsUptoRow.holds Tryd.pinned (OpenSpec.upto deltaFormsSpec)

/-- 'rabbetlaw9.DeltaEven', WHERE WHAT IT READS IS OF BULK AT MOST 1048576: true; the input reads as it did. -/
def deltaEvenUptoRow : OpenClaim := { program := "ytdhaagooiioglaadoor", sum := "af5ea817eabc4cfc17174fd3f3c13f6f3ab6581d19bbd97581ea4dead464fdbb", func := "rabbet/rabbetlaw9.DeltaEven", spec := "deltaEven", inPlace := ["internal/reflectlite.TypeOf"], unfollowed := true, recurses := true, named := ["rabbet/fault.ErrType", "rabbet/fault.ErrValue", "rabbet/fault.ErrBound", "rabbet/fault.ErrShort", "rabbet/fault.ErrSpare", "rabbet/num.errNone"], apart := false, laid := [("rabbet/fault.ErrShort", laid_rabbet_fault_ErrShort), ("rabbet/fault.ErrSpare", laid_rabbet_fault_ErrSpare), ("rabbet/fault.ErrValue", laid_rabbet_fault_ErrValue), ("rabbet/fault.ErrType", laid_rabbet_fault_ErrType), ("rabbet/fault.ErrBound", laid_rabbet_fault_ErrBound), ("rabbet/num.errNone", laid_rabbet_num_errNone)], narrowed := true }
def DeltaEvenUptoSaid : Prop := deltaEvenUptoRow.holds Tryd.pinned (OpenSpec.upto deltaEvenSpec)

end Rows
end Go.Proofs.YtdhaagooiioglaaDoor
