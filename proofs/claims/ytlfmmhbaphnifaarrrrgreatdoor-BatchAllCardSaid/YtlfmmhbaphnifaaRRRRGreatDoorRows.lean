/-
  NARROWER THAN 'FOR EVERY INPUT', by the rows' own cells (each row's printed sentence says how): BatchAll: laid · BatchSets: laid · BatchBag: laid · BatchTurns: laid.
  DERIVED. THE GIVEN ROWS OF THIS SEAT. 4 by the template 'for every input the law returns true; each argument reads behind the call as it read before'; 0 by the template 'total and deterministic' (their statements: YtlfmmhbaphnifaaRRRRGreatDoorTotals.lean).
  GIVEN WITH THE SEED: the statements are not yours to turn. If you find one false, say at which input.
  Laid BY PROGRAM, IN A SANDBOX (cutbox-rows.mjs): the forced cells as the released guide's own fill.sh prints them over the translation 49431c8845066162… (all of the seat's roots in one cut). By AI agents, Wed Nov 11 2026. No macro, syntax, notation, axiom, sorry.
-/
import Derived.Test.YtlfmmhbaphnifaaRRRRGreatDoorChecked
import GoSem.Claim
import GoSem.ClaimJoined
import GoSem.ClaimMapViews
import Derived.JoinedTies
import Derived.KernelRfl
namespace Go.Proofs.YtlfmmhbaphnifaaRRRRGreatDoor
/- THE CELL 'sum', in the pinned program and in every row, IS THE sha256 OF THE DUMP (.gsa) THAT YtlfmmhbaphnifaaRRRRGreatDoorProg.lean LOADS. Nothing in Lean hashes anything: it is a label: what it is worth is what the hold of that sum in a sandbox is worth. -/
noncomputable def Tryz.pinned : Pinned := { name := "ytlfmmhbaphnifaarrrrgreatdoor", sum := "49431c884506616220c729778edcf8e42b2c38aebc346e11a7958a66a2a2cff2", checked := Tryz.checked }
namespace Rows
def none {H : Type} : Left H := { results := [], args := [] }

/- WHAT THE LISTED PACKAGE-LEVEL VARIABLES READ AS WHEN THE CALL BEGINS. Each datum BY PROGRAM (the guide's laid-datum.mjs) off the statement by which the dump's own 'gosem.cut.vars' lays the variable. In a bare row this is a premise. The card (YtlfmmhbaphnifaaRRRRGreatDoorCards.lean) ties it to the program's text. -/
def laid_errors_errorType {H : Type} : DataW H := .iface "internal/reflectlite.rtype" (.agg [.ptr (.lit (.string [101, 114, 114, 111, 114]))])
def laid_rabbet_fault_ErrBound {H : Type} : DataW H := .iface "*errors.errorString" (.ptr (.agg [.lit (.string [105, 116, 32, 105, 115, 32, 111, 117, 116, 32, 111, 102, 32, 98, 111, 117, 110, 100, 115])]))

/-- 'rabbetlaw12.BatchAll': WHATEVER THE INPUT: true; the input reads as it did. -/
def batchAllSpec : ChangeSpec := { name := "batchAll", fn := fun _ => fun
  | [d1, d2, d3, d4, d5] => { results := [.lit (.bool true)], args := [d1, d2, d3, d4, d5] }
  | _ => none }
def batchAllRow : OpenClaim := { program := "ytlfmmhbaphnifaarrrrgreatdoor", sum := "49431c884506616220c729778edcf8e42b2c38aebc346e11a7958a66a2a2cff2", func := "rabbet/rabbetlaw12.BatchAll", spec := "batchAll", inPlace := ["internal/reflectlite.ValueOf", "(internal/reflectlite.Value).Type", "(internal/reflectlite.Value).IsNil", "internal/reflectlite.TypeOf", "(internal/reflectlite.Value).Elem", "(internal/reflectlite.Value).Set"], unfollowed := true, recurses := true, named := ["rabbet/fault.ErrBound", "errors.errorType"], apart := false, laid := [("errors.errorType", laid_errors_errorType), ("rabbet/fault.ErrBound", laid_rabbet_fault_ErrBound)] }
def BatchAllSaid : Prop := batchAllRow.holds Tryz.pinned (OpenSpec.ofChange batchAllSpec)

/-- ITS FALSE NEIGHBOUR: 'it returns false'. Refute it at one input. -/
def batchAllWrong : ChangeSpec := { name := "batchAll", fn := fun _ => fun
  | [d1, d2, d3, d4, d5] => { results := [.lit (.bool false)], args := [d1, d2, d3, d4, d5] }
  | _ => none }
def BatchAllWrongFalsely : Prop := batchAllRow.holds Tryz.pinned (OpenSpec.ofChange batchAllWrong)

/-- 'rabbetlaw12.BatchSets': WHATEVER THE INPUT: true; the input reads as it did. -/
def batchSetsSpec : ChangeSpec := { name := "batchSets", fn := fun _ => fun
  | [d1, d2, d3] => { results := [.lit (.bool true)], args := [d1, d2, d3] }
  | _ => none }
def batchSetsRow : OpenClaim := { program := "ytlfmmhbaphnifaarrrrgreatdoor", sum := "49431c884506616220c729778edcf8e42b2c38aebc346e11a7958a66a2a2cff2", func := "rabbet/rabbetlaw12.BatchSets", spec := "batchSets", inPlace := ["internal/reflectlite.ValueOf", "(internal/reflectlite.Value).Type", "(internal/reflectlite.Value).IsNil", "internal/reflectlite.TypeOf", "(internal/reflectlite.Value).Elem", "(internal/reflectlite.Value).Set"], unfollowed := true, recurses := true, named := ["rabbet/fault.ErrBound", "errors.errorType"], apart := false, laid := [("errors.errorType", laid_errors_errorType), ("rabbet/fault.ErrBound", laid_rabbet_fault_ErrBound)] }
def BatchSetsSaid : Prop := batchSetsRow.holds Tryz.pinned (OpenSpec.ofChange batchSetsSpec)

/-- ITS FALSE NEIGHBOUR: 'it returns false'. Refute it at one input. -/
def batchSetsWrong : ChangeSpec := { name := "batchSets", fn := fun _ => fun
  | [d1, d2, d3] => { results := [.lit (.bool false)], args := [d1, d2, d3] }
  | _ => none }
def BatchSetsWrongFalsely : Prop := batchSetsRow.holds Tryz.pinned (OpenSpec.ofChange batchSetsWrong)

/-- 'rabbetlaw12.BatchBag': WHATEVER THE INPUT: true; the input reads as it did. -/
def batchBagSpec : ChangeSpec := { name := "batchBag", fn := fun _ => fun
  | [d1, d2, d3] => { results := [.lit (.bool true)], args := [d1, d2, d3] }
  | _ => none }
def batchBagRow : OpenClaim := { program := "ytlfmmhbaphnifaarrrrgreatdoor", sum := "49431c884506616220c729778edcf8e42b2c38aebc346e11a7958a66a2a2cff2", func := "rabbet/rabbetlaw12.BatchBag", spec := "batchBag", inPlace := ["internal/reflectlite.ValueOf", "(internal/reflectlite.Value).Type", "(internal/reflectlite.Value).IsNil", "internal/reflectlite.TypeOf", "(internal/reflectlite.Value).Elem", "(internal/reflectlite.Value).Set"], unfollowed := true, recurses := true, named := ["rabbet/fault.ErrBound", "errors.errorType"], apart := false, laid := [("errors.errorType", laid_errors_errorType), ("rabbet/fault.ErrBound", laid_rabbet_fault_ErrBound)] }
def BatchBagSaid : Prop := batchBagRow.holds Tryz.pinned (OpenSpec.ofChange batchBagSpec)

/-- ITS FALSE NEIGHBOUR: 'it returns false'. Refute it at one input. -/
def batchBagWrong : ChangeSpec := { name := "batchBag", fn := fun _ => fun
  | [d1, d2, d3] => { results := [.lit (.bool false)], args := [d1, d2, d3] }
  | _ => none }
def BatchBagWrongFalsely : Prop := batchBagRow.holds Tryz.pinned (OpenSpec.ofChange batchBagWrong)

/-- 'rabbetlaw12.BatchTurns': WHATEVER THE INPUT: true; the input reads as it did. -/
def batchTurnsSpec : ChangeSpec := { name := "batchTurns", fn := fun _ => fun
  | [d1, d2] => { results := [.lit (.bool true)], args := [d1, d2] }
  | _ => none }
def batchTurnsRow : OpenClaim := { program := "ytlfmmhbaphnifaarrrrgreatdoor", sum := "49431c884506616220c729778edcf8e42b2c38aebc346e11a7958a66a2a2cff2", func := "rabbet/rabbetlaw12.BatchTurns", spec := "batchTurns", inPlace := ["internal/reflectlite.ValueOf", "(internal/reflectlite.Value).Type", "(internal/reflectlite.Value).IsNil", "internal/reflectlite.TypeOf", "(internal/reflectlite.Value).Elem", "(internal/reflectlite.Value).Set"], unfollowed := true, recurses := true, named := ["rabbet/fault.ErrBound", "errors.errorType"], apart := false, laid := [("errors.errorType", laid_errors_errorType), ("rabbet/fault.ErrBound", laid_rabbet_fault_ErrBound)] }
def BatchTurnsSaid : Prop := batchTurnsRow.holds Tryz.pinned (OpenSpec.ofChange batchTurnsSpec)

/-- ITS FALSE NEIGHBOUR: 'it returns false'. Refute it at one input. -/
def batchTurnsWrong : ChangeSpec := { name := "batchTurns", fn := fun _ => fun
  | [d1, d2] => { results := [.lit (.bool false)], args := [d1, d2] }
  | _ => none }
def BatchTurnsWrongFalsely : Prop := batchTurnsRow.holds Tryz.pinned (OpenSpec.ofChange batchTurnsWrong)

/- THE SECOND FORM. 'bulk': how many values and letters a reading holds, each counted each time it is reached (what is shared counts as often as it is met; a slice's spare places count too). A statement '..UptoSaid' is the law's where the arguments, and the package variables that the reading takes, are together of bulk at most 1048576: NARROWER than '..Said'. Prove '..Said' where nothing that the law and all that it calls make is longer than what came in: it says more and counts as full. Else prove '..UptoSaid'. A law counts once. -/
mutual
def uptoBulk {H : Type} : DataW H → Nat
  | .lit (.string bytes) => bytes.length + 1
  | .lit _ => 1
  | .nil => 1
  | .ptr d => uptoBulk d + 1
  | .slice elems spare => uptoBulkAll elems + uptoBulkAll spare + 1
  | .agg parts => uptoBulkAll parts + 1
  | .iface _ d => uptoBulk d + 1
  | .map entries => uptoBulkEntries entries + 1
  | .held _ => 1
def uptoBulkAll {H : Type} : List (DataW H) → Nat
  | [] => 0
  | d :: r => uptoBulk d + uptoBulkAll r
def uptoBulkEntries {H : Type} : List (Lit × DataW H) → Nat
  | [] => 0
  | x :: r => uptoBulkEntry x + uptoBulkEntries r
def uptoBulkEntry {H : Type} : Lit × DataW H → Nat
  | (.string bytes, d) => bytes.length + uptoBulk d + 1
  | (_, d) => uptoBulk d + 1
 end
def uptoSmall : (H : Type) → List (DataW H) → Bool := fun _ ds => decide (uptoBulkAll ds ≤ 1048576)
def OpenSpec.upto (s : _root_.Go.ChangeSpec) : _root_.Go.OpenSpec := { _root_.Go.OpenSpec.ofChange s with cond := some uptoSmall }

/-- 'rabbetlaw12.BatchAll', WHERE WHAT IT READS IS OF BULK AT MOST 1048576: true; the input reads as it did. -/
def batchAllUptoRow : OpenClaim := { program := "ytlfmmhbaphnifaarrrrgreatdoor", sum := "49431c884506616220c729778edcf8e42b2c38aebc346e11a7958a66a2a2cff2", func := "rabbet/rabbetlaw12.BatchAll", spec := "batchAll", inPlace := ["internal/reflectlite.ValueOf", "(internal/reflectlite.Value).Type", "(internal/reflectlite.Value).IsNil", "internal/reflectlite.TypeOf", "(internal/reflectlite.Value).Elem", "(internal/reflectlite.Value).Set"], unfollowed := true, recurses := true, named := ["rabbet/fault.ErrBound", "errors.errorType"], apart := false, laid := [("errors.errorType", laid_errors_errorType), ("rabbet/fault.ErrBound", laid_rabbet_fault_ErrBound)], narrowed := true }
def BatchAllUptoSaid : Prop := batchAllUptoRow.holds Tryz.pinned (OpenSpec.upto batchAllSpec)

/-- 'rabbetlaw12.BatchSets', WHERE WHAT IT READS IS OF BULK AT MOST 1048576: true; the input reads as it did. -/
def batchSetsUptoRow : OpenClaim := { program := "ytlfmmhbaphnifaarrrrgreatdoor", sum := "49431c884506616220c729778edcf8e42b2c38aebc346e11a7958a66a2a2cff2", func := "rabbet/rabbetlaw12.BatchSets", spec := "batchSets", inPlace := ["internal/reflectlite.ValueOf", "(internal/reflectlite.Value).Type", "(internal/reflectlite.Value).IsNil", "internal/reflectlite.TypeOf", "(internal/reflectlite.Value).Elem", "(internal/reflectlite.Value).Set"], unfollowed := true, recurses := true, named := ["rabbet/fault.ErrBound", "errors.errorType"], apart := false, laid := [("errors.errorType", laid_errors_errorType), ("rabbet/fault.ErrBound", laid_rabbet_fault_ErrBound)], narrowed := true }
def BatchSetsUptoSaid : Prop := batchSetsUptoRow.holds Tryz.pinned (OpenSpec.upto batchSetsSpec)

/-- 'rabbetlaw12.BatchBag', WHERE WHAT IT READS IS OF BULK AT MOST 1048576: true; the input reads as it did. -/
def batchBagUptoRow : OpenClaim := { program := "ytlfmmhbaphnifaarrrrgreatdoor", sum := "49431c884506616220c729778edcf8e42b2c38aebc346e11a7958a66a2a2cff2", func := "rabbet/rabbetlaw12.BatchBag", spec := "batchBag", inPlace := ["internal/reflectlite.ValueOf", "(internal/reflectlite.Value).Type", "(internal/reflectlite.Value).IsNil", "internal/reflectlite.TypeOf", "(internal/reflectlite.Value).Elem", "(internal/reflectlite.Value).Set"], unfollowed := true, recurses := true, named := ["rabbet/fault.ErrBound", "errors.errorType"], apart := false, laid := [("errors.errorType", laid_errors_errorType), ("rabbet/fault.ErrBound", laid_rabbet_fault_ErrBound)], narrowed := true }
def BatchBagUptoSaid : Prop := batchBagUptoRow.holds Tryz.pinned (OpenSpec.upto batchBagSpec)

/-- 'rabbetlaw12.BatchTurns', WHERE WHAT IT READS IS OF BULK AT MOST 1048576: true; the input reads as it did. -/
def batchTurnsUptoRow : OpenClaim := { program := "ytlfmmhbaphnifaarrrrgreatdoor", sum := "49431c884506616220c729778edcf8e42b2c38aebc346e11a7958a66a2a2cff2", func := "rabbet/rabbetlaw12.BatchTurns", spec := "batchTurns", inPlace := ["internal/reflectlite.ValueOf", "(internal/reflectlite.Value).Type", "(internal/reflectlite.Value).IsNil", "internal/reflectlite.TypeOf", "(internal/reflectlite.Value).Elem", "(internal/reflectlite.Value).Set"], unfollowed := true, recurses := true, named := ["rabbet/fault.ErrBound", "errors.errorType"], apart := false, laid := [("errors.errorType", laid_errors_errorType), ("rabbet/fault.ErrBound", laid_rabbet_fault_ErrBound)], narrowed := true }
def BatchTurnsUptoSaid : Prop := batchTurnsUptoRow.holds Tryz.pinned (OpenSpec.upto batchTurnsSpec)

end Rows
end Go.Proofs.YtlfmmhbaphnifaaRRRRGreatDoor
