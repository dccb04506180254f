/-
  NARROWER THAN 'FOR EVERY INPUT', by the rows' own cells (each row's printed sentence says how): ValueAll: laid · ValueOrder: laid · ValueBack: laid · ValueForms: laid · ValueTypes: laid · NumAll: laid · NumBack: laid · NumForms: laid.
  DERIVED. THE GIVEN ROWS OF THIS SEAT. 8 by the template 'for every input the law returns true; each argument reads behind the call as it read before'; 0 by the template 'total and deterministic' (their statements: YtbmlipandjbbbaaDoorTotals.lean).
  GIVEN WITH THE SEED: the statements are not yours to turn. If you find one false, say at which input.
  Laid BY PROGRAM, IN A SANDBOX (cutbox-rows.mjs): the forced cells as the released guide's own fill.sh prints them over the translation ad6bfd34d1ba1db3… (all of the seat's roots in one cut). By AI agents, Wed Nov 11 2026. No macro, syntax, notation, axiom, sorry.
-/
import Derived.Test.YtbmlipandjbbbaaDoorChecked
import GoSem.Claim
import GoSem.ClaimJoined
import GoSem.ClaimMapViews
import Derived.JoinedTies
import Derived.KernelRfl
namespace Go.Proofs.YtbmlipandjbbbaaDoor
/- THE CELL 'sum', in the pinned program and in every row, IS THE sha256 OF THE DUMP (.gsa) THAT YtbmlipandjbbbaaDoorProg.lean LOADS. Nothing in Lean hashes anything: it is a label: what it is worth is what the hold of that sum in a sandbox is worth. -/
noncomputable def Tryd.pinned : Pinned := { name := "ytbmlipandjbbbaadoor", sum := "ad6bfd34d1ba1db35a47ad4017b2e8bc84653f66e0bc551e4ff8bb93ae5d9916", checked := Tryd.checked }
namespace Rows
def none {H : Type} : Left H := { results := [], args := [] }

/- WHAT THE LISTED PACKAGE-LEVEL VARIABLES READ AS WHEN THE CALL BEGINS. Each datum BY PROGRAM (the guide's laid-datum.mjs) off the statement by which the dump's own 'gosem.cut.vars' lays the variable. In a bare row this is a premise. The card (YtbmlipandjbbbaaDoorCards.lean) ties it to the program's text. -/
def laid_rabbet_fault_ErrShort {H : Type} : DataW H := .iface "*errors.errorString" (.ptr (.agg [.lit (.string [105, 116, 32, 101, 110, 100, 115, 32, 116, 111, 111, 32, 115, 111, 111, 110])]))
def laid_rabbet_fault_ErrValue {H : Type} : DataW H := .iface "*errors.errorString" (.ptr (.agg [.lit (.string [105, 116, 32, 109, 97, 121, 32, 110, 111, 116, 32, 98, 101])]))
def laid_rabbet_fault_ErrType {H : Type} : DataW H := .iface "*errors.errorString" (.ptr (.agg [.lit (.string [105, 116, 32, 105, 115, 32, 111, 102, 32, 97, 110, 111, 116, 104, 101, 114, 32, 116, 121, 112, 101])]))
def laid_rabbet_fault_ErrBound {H : Type} : DataW H := .iface "*errors.errorString" (.ptr (.agg [.lit (.string [105, 116, 32, 105, 115, 32, 111, 117, 116, 32, 111, 102, 32, 98, 111, 117, 110, 100, 115])]))
def laid_rabbet_num_errNone {H : Type} : DataW H := .iface "*errors.errorString" (.ptr (.agg [.lit (.string [110, 111, 32, 110, 117, 109, 98, 101, 114])]))

/-- 'rabbetlaw1.ValueAll': WHATEVER THE INPUT: true; the input reads as it did. -/
def valueAllSpec : ChangeSpec := { name := "valueAll", fn := fun _ => fun
  | [d1, d2, d3, d4] => { results := [.lit (.bool true)], args := [d1, d2, d3, d4] }
  | _ => none }
def valueAllRow : OpenClaim := { program := "ytbmlipandjbbbaadoor", sum := "ad6bfd34d1ba1db35a47ad4017b2e8bc84653f66e0bc551e4ff8bb93ae5d9916", func := "rabbet/rabbetlaw1.ValueAll", spec := "valueAll", inPlace := ["internal/reflectlite.TypeOf", "internal/bytealg.abigen_runtime_cmpstring"], unfollowed := true, recurses := true, named := ["rabbet/fault.ErrValue", "rabbet/fault.ErrBound", "rabbet/fault.ErrType", "rabbet/fault.ErrShort"], apart := false, laid := [("rabbet/fault.ErrShort", laid_rabbet_fault_ErrShort), ("rabbet/fault.ErrValue", laid_rabbet_fault_ErrValue), ("rabbet/fault.ErrType", laid_rabbet_fault_ErrType), ("rabbet/fault.ErrBound", laid_rabbet_fault_ErrBound)] }
def ValueAllSaid : Prop := valueAllRow.holds Tryd.pinned (OpenSpec.ofChange valueAllSpec)

/-- ITS FALSE NEIGHBOUR: 'it returns false'. Refute it at one input. -/
def valueAllWrong : ChangeSpec := { name := "valueAll", fn := fun _ => fun
  | [d1, d2, d3, d4] => { results := [.lit (.bool false)], args := [d1, d2, d3, d4] }
  | _ => none }
def ValueAllWrongFalsely : Prop := valueAllRow.holds Tryd.pinned (OpenSpec.ofChange valueAllWrong)

/-- 'rabbetlaw1.ValueOrder': WHATEVER THE INPUT: true; the input reads as it did. -/
def valueOrderSpec : ChangeSpec := { name := "valueOrder", fn := fun _ => fun
  | [d1, d2, d3] => { results := [.lit (.bool true)], args := [d1, d2, d3] }
  | _ => none }
def valueOrderRow : OpenClaim := { program := "ytbmlipandjbbbaadoor", sum := "ad6bfd34d1ba1db35a47ad4017b2e8bc84653f66e0bc551e4ff8bb93ae5d9916", func := "rabbet/rabbetlaw1.ValueOrder", spec := "valueOrder", inPlace := ["internal/reflectlite.TypeOf", "internal/bytealg.abigen_runtime_cmpstring"], unfollowed := true, recurses := true, named := ["rabbet/fault.ErrValue", "rabbet/fault.ErrBound", "rabbet/fault.ErrType", "rabbet/fault.ErrShort"], apart := false, laid := [("rabbet/fault.ErrShort", laid_rabbet_fault_ErrShort), ("rabbet/fault.ErrValue", laid_rabbet_fault_ErrValue), ("rabbet/fault.ErrType", laid_rabbet_fault_ErrType), ("rabbet/fault.ErrBound", laid_rabbet_fault_ErrBound)] }
def ValueOrderSaid : Prop := valueOrderRow.holds Tryd.pinned (OpenSpec.ofChange valueOrderSpec)

/-- ITS FALSE NEIGHBOUR: 'it returns false'. Refute it at one input. -/
def valueOrderWrong : ChangeSpec := { name := "valueOrder", fn := fun _ => fun
  | [d1, d2, d3] => { results := [.lit (.bool false)], args := [d1, d2, d3] }
  | _ => none }
def ValueOrderWrongFalsely : Prop := valueOrderRow.holds Tryd.pinned (OpenSpec.ofChange valueOrderWrong)

/-- 'rabbetlaw1.ValueBack': WHATEVER THE INPUT: true; the input reads as it did. -/
def valueBackSpec : ChangeSpec := { name := "valueBack", fn := fun _ => fun
  | [d1, d2, d3] => { results := [.lit (.bool true)], args := [d1, d2, d3] }
  | _ => none }
def valueBackRow : OpenClaim := { program := "ytbmlipandjbbbaadoor", sum := "ad6bfd34d1ba1db35a47ad4017b2e8bc84653f66e0bc551e4ff8bb93ae5d9916", func := "rabbet/rabbetlaw1.ValueBack", spec := "valueBack", inPlace := ["internal/reflectlite.TypeOf", "internal/bytealg.abigen_runtime_cmpstring"], unfollowed := true, recurses := true, named := ["rabbet/fault.ErrValue", "rabbet/fault.ErrBound", "rabbet/fault.ErrType", "rabbet/fault.ErrShort"], apart := false, laid := [("rabbet/fault.ErrShort", laid_rabbet_fault_ErrShort), ("rabbet/fault.ErrValue", laid_rabbet_fault_ErrValue), ("rabbet/fault.ErrType", laid_rabbet_fault_ErrType), ("rabbet/fault.ErrBound", laid_rabbet_fault_ErrBound)] }
def ValueBackSaid : Prop := valueBackRow.holds Tryd.pinned (OpenSpec.ofChange valueBackSpec)

/-- ITS FALSE NEIGHBOUR: 'it returns false'. Refute it at one input. -/
def valueBackWrong : ChangeSpec := { name := "valueBack", fn := fun _ => fun
  | [d1, d2, d3] => { results := [.lit (.bool false)], args := [d1, d2, d3] }
  | _ => none }
def ValueBackWrongFalsely : Prop := valueBackRow.holds Tryd.pinned (OpenSpec.ofChange valueBackWrong)

/-- 'rabbetlaw1.ValueForms': WHATEVER THE INPUT: true; the input reads as it did. -/
def valueFormsSpec : ChangeSpec := { name := "valueForms", fn := fun _ => fun
  | [] => { results := [.lit (.bool true)], args := [] }
  | _ => none }
def valueFormsRow : OpenClaim := { program := "ytbmlipandjbbbaadoor", sum := "ad6bfd34d1ba1db35a47ad4017b2e8bc84653f66e0bc551e4ff8bb93ae5d9916", func := "rabbet/rabbetlaw1.ValueForms", spec := "valueForms", inPlace := ["internal/reflectlite.TypeOf", "internal/bytealg.abigen_runtime_cmpstring"], unfollowed := true, recurses := true, named := ["rabbet/fault.ErrValue", "rabbet/fault.ErrBound", "rabbet/fault.ErrType", "rabbet/fault.ErrShort"], apart := false, laid := [("rabbet/fault.ErrShort", laid_rabbet_fault_ErrShort), ("rabbet/fault.ErrValue", laid_rabbet_fault_ErrValue), ("rabbet/fault.ErrType", laid_rabbet_fault_ErrType), ("rabbet/fault.ErrBound", laid_rabbet_fault_ErrBound)] }
def ValueFormsSaid : Prop := valueFormsRow.holds Tryd.pinned (OpenSpec.ofChange valueFormsSpec)

/-- ITS FALSE NEIGHBOUR: 'it returns false'. Refute it at one input. -/
def valueFormsWrong : ChangeSpec := { name := "valueForms", fn := fun _ => fun
  | [] => { results := [.lit (.bool false)], args := [] }
  | _ => none }
def ValueFormsWrongFalsely : Prop := valueFormsRow.holds Tryd.pinned (OpenSpec.ofChange valueFormsWrong)

/-- 'rabbetlaw1.ValueTypes': WHATEVER THE INPUT: true; the input reads as it did. -/
def valueTypesSpec : ChangeSpec := { name := "valueTypes", fn := fun _ => fun
  | [d] => { results := [.lit (.bool true)], args := [d] }
  | _ => none }
def valueTypesRow : OpenClaim := { program := "ytbmlipandjbbbaadoor", sum := "ad6bfd34d1ba1db35a47ad4017b2e8bc84653f66e0bc551e4ff8bb93ae5d9916", func := "rabbet/rabbetlaw1.ValueTypes", spec := "valueTypes", inPlace := ["internal/reflectlite.TypeOf", "internal/bytealg.abigen_runtime_cmpstring"], unfollowed := true, recurses := true, named := ["rabbet/fault.ErrValue", "rabbet/fault.ErrBound", "rabbet/fault.ErrType", "rabbet/fault.ErrShort"], apart := false, laid := [("rabbet/fault.ErrShort", laid_rabbet_fault_ErrShort), ("rabbet/fault.ErrValue", laid_rabbet_fault_ErrValue), ("rabbet/fault.ErrType", laid_rabbet_fault_ErrType), ("rabbet/fault.ErrBound", laid_rabbet_fault_ErrBound)] }
def ValueTypesSaid : Prop := valueTypesRow.holds Tryd.pinned (OpenSpec.ofChange valueTypesSpec)

/-- ITS FALSE NEIGHBOUR: 'it returns false'. Refute it at one input. -/
def valueTypesWrong : ChangeSpec := { name := "valueTypes", fn := fun _ => fun
  | [d] => { results := [.lit (.bool false)], args := [d] }
  | _ => none }
def ValueTypesWrongFalsely : Prop := valueTypesRow.holds Tryd.pinned (OpenSpec.ofChange valueTypesWrong)

/-- 'rabbetlaw2.NumAll': WHATEVER THE INPUT: true; the input reads as it did. -/
def numAllSpec : ChangeSpec := { name := "numAll", fn := fun _ => fun
  | [d1, d2, d3] => { results := [.lit (.bool true)], args := [d1, d2, d3] }
  | _ => none }
def numAllRow : OpenClaim := { program := "ytbmlipandjbbbaadoor", sum := "ad6bfd34d1ba1db35a47ad4017b2e8bc84653f66e0bc551e4ff8bb93ae5d9916", func := "rabbet/rabbetlaw2.NumAll", spec := "numAll", inPlace := ["internal/reflectlite.TypeOf"], unfollowed := true, recurses := true, named := ["rabbet/num.errNone"], apart := false, laid := [("rabbet/num.errNone", laid_rabbet_num_errNone)] }
def NumAllSaid : Prop := numAllRow.holds Tryd.pinned (OpenSpec.ofChange numAllSpec)

/-- ITS FALSE NEIGHBOUR: 'it returns false'. Refute it at one input. -/
def numAllWrong : ChangeSpec := { name := "numAll", fn := fun _ => fun
  | [d1, d2, d3] => { results := [.lit (.bool false)], args := [d1, d2, d3] }
  | _ => none }
def NumAllWrongFalsely : Prop := numAllRow.holds Tryd.pinned (OpenSpec.ofChange numAllWrong)

/-- 'rabbetlaw2.NumBack': WHATEVER THE INPUT: true; the input reads as it did. -/
def numBackSpec : ChangeSpec := { name := "numBack", fn := fun _ => fun
  | [d1, d2, d3, d4, d5] => { results := [.lit (.bool true)], args := [d1, d2, d3, d4, d5] }
  | _ => none }
def numBackRow : OpenClaim := { program := "ytbmlipandjbbbaadoor", sum := "ad6bfd34d1ba1db35a47ad4017b2e8bc84653f66e0bc551e4ff8bb93ae5d9916", func := "rabbet/rabbetlaw2.NumBack", spec := "numBack", inPlace := ["internal/reflectlite.TypeOf"], unfollowed := true, recurses := true, named := ["rabbet/num.errNone"], apart := false, laid := [("rabbet/num.errNone", laid_rabbet_num_errNone)] }
def NumBackSaid : Prop := numBackRow.holds Tryd.pinned (OpenSpec.ofChange numBackSpec)

/-- ITS FALSE NEIGHBOUR: 'it returns false'. Refute it at one input. -/
def numBackWrong : ChangeSpec := { name := "numBack", fn := fun _ => fun
  | [d1, d2, d3, d4, d5] => { results := [.lit (.bool false)], args := [d1, d2, d3, d4, d5] }
  | _ => none }
def NumBackWrongFalsely : Prop := numBackRow.holds Tryd.pinned (OpenSpec.ofChange numBackWrong)

/-- 'rabbetlaw2.NumForms': WHATEVER THE INPUT: true; the input reads as it did. -/
def numFormsSpec : ChangeSpec := { name := "numForms", fn := fun _ => fun
  | [] => { results := [.lit (.bool true)], args := [] }
  | _ => none }
def numFormsRow : OpenClaim := { program := "ytbmlipandjbbbaadoor", sum := "ad6bfd34d1ba1db35a47ad4017b2e8bc84653f66e0bc551e4ff8bb93ae5d9916", func := "rabbet/rabbetlaw2.NumForms", spec := "numForms", inPlace := ["internal/reflectlite.TypeOf"], unfollowed := true, recurses := true, named := ["rabbet/num.errNone"], apart := false, laid := [("rabbet/num.errNone", laid_rabbet_num_errNone)] }
def NumFormsSaid : Prop := numFormsRow.holds Tryd.pinned (OpenSpec.ofChange numFormsSpec)

/-- ITS FALSE NEIGHBOUR: 'it returns false'. Refute it at one input. -/
def numFormsWrong : ChangeSpec := { name := "numForms", fn := fun _ => fun
  | [] => { results := [.lit (.bool false)], args := [] }
  | _ => none }
def NumFormsWrongFalsely : Prop := numFormsRow.holds Tryd.pinned (OpenSpec.ofChange numFormsWrong)

/- THE SECOND FORM. 'bulk': how many values and letters a reading holds, each counted each time it is reached (what is shared counts as often as it is met; a slice's spare places count too). A statement '..UptoSaid' is the law's where the arguments, and the package variables that the reading takes, are together of bulk at most 1048576: NARROWER than '..Said'. Prove '..Said' where nothing that the law and all that it calls make is longer than what came in: it says more and counts as full. Else prove '..UptoSaid'. A law counts once. -/
mutual
def uptoBulk {H : Type} : DataW H → Nat
  | .lit (.string bytes) => bytes.length + 1
  | .lit _ => 1
  | .nil => 1
  | .ptr d => uptoBulk d + 1
  | .slice elems spare => uptoBulkAll elems + uptoBulkAll spare + 1
  | .agg parts => uptoBulkAll parts + 1
  | .iface _ d => uptoBulk d + 1
  | .map entries => uptoBulkEntries entries + 1
  | .held _ => 1
def uptoBulkAll {H : Type} : List (DataW H) → Nat
  | [] => 0
  | d :: r => uptoBulk d + uptoBulkAll r
def uptoBulkEntries {H : Type} : List (Lit × DataW H) → Nat
  | [] => 0
  | x :: r => uptoBulkEntry x + uptoBulkEntries r
def uptoBulkEntry {H : Type} : Lit × DataW H → Nat
  | (.string bytes, d) => bytes.length + uptoBulk d + 1
  | (_, d) => uptoBulk d + 1
 end
def uptoSmall : (H : Type) → List (DataW H) → Bool := fun _ ds => decide (uptoBulkAll ds ≤ 1048576)
def OpenSpec.upto (s : _root_.Go.ChangeSpec) : _root_.Go.OpenSpec := { _root_.Go.OpenSpec.ofChange s with cond := some uptoSmall }

/-- 'rabbetlaw1.ValueAll', WHERE WHAT IT READS IS OF BULK AT MOST 1048576: true; the input reads as it did. -/
def valueAllUptoRow : OpenClaim := { program := "ytbmlipandjbbbaadoor", sum := "ad6bfd34d1ba1db35a47ad4017b2e8bc84653f66e0bc551e4ff8bb93ae5d9916", func := "rabbet/rabbetlaw1.ValueAll", spec := "valueAll", inPlace := ["internal/reflectlite.TypeOf", "internal/bytealg.abigen_runtime_cmpstring"], unfollowed := true, recurses := true, named := ["rabbet/fault.ErrValue", "rabbet/fault.ErrBound", "rabbet/fault.ErrType", "rabbet/fault.ErrShort"], apart := false, laid := [("rabbet/fault.ErrShort", laid_rabbet_fault_ErrShort), ("rabbet/fault.ErrValue", laid_rabbet_fault_ErrValue), ("rabbet/fault.ErrType", laid_rabbet_fault_ErrType), ("rabbet/fault.ErrBound", laid_rabbet_fault_ErrBound)], narrowed := true }
def ValueAllUptoSaid : Prop := valueAllUptoRow.holds Tryd.pinned (OpenSpec.upto valueAllSpec)

/-- 'rabbetlaw1.ValueOrder', WHERE WHAT IT READS IS OF BULK AT MOST 1048576: true; the input reads as it did. -/
def valueOrderUptoRow : OpenClaim := { program := "ytbmlipandjbbbaadoor", sum := "ad6bfd34d1ba1db35a47ad4017b2e8bc84653f66e0bc551e4ff8bb93ae5d9916", func := "rabbet/rabbetlaw1.ValueOrder", spec := "valueOrder", inPlace := ["internal/reflectlite.TypeOf", "internal/bytealg.abigen_runtime_cmpstring"], unfollowed := true, recurses := true, named := ["rabbet/fault.ErrValue", "rabbet/fault.ErrBound", "rabbet/fault.ErrType", "rabbet/fault.ErrShort"], apart := false, laid := [("rabbet/fault.ErrShort", laid_rabbet_fault_ErrShort), ("rabbet/fault.ErrValue", laid_rabbet_fault_ErrValue), ("rabbet/fault.ErrType", laid_rabbet_fault_ErrType), ("rabbet/fault.ErrBound", laid_rabbet_fault_ErrBound)], narrowed := true }
def ValueOrderUptoSaid : Prop := valueOrderUptoRow.holds Tryd.pinned (OpenSpec.upto valueOrderSpec)

/-- 'rabbetlaw1.ValueBack', WHERE WHAT IT READS IS OF BULK AT MOST 1048576: true; the input reads as it did. -/
def valueBackUptoRow : OpenClaim := { program := "ytbmlipandjbbbaadoor", sum := "ad6bfd34d1ba1db35a47ad4017b2e8bc84653f66e0bc551e4ff8bb93ae5d9916", func := "rabbet/rabbetlaw1.ValueBack", spec := "valueBack", inPlace := ["internal/reflectlite.TypeOf", "internal/bytealg.abigen_runtime_cmpstring"], unfollowed := true, recurses := true, named := ["rabbet/fault.ErrValue", "rabbet/fault.ErrBound", "rabbet/fault.ErrType", "rabbet/fault.ErrShort"], apart := false, laid := [("rabbet/fault.ErrShort", laid_rabbet_fault_ErrShort), ("rabbet/fault.ErrValue", laid_rabbet_fault_ErrValue), ("rabbet/fault.ErrType", laid_rabbet_fault_ErrType), ("rabbet/fault.ErrBound", laid_rabbet_fault_ErrBound)], narrowed := true }
def ValueBackUptoSaid : Prop := valueBackUptoRow.holds Tryd.pinned (OpenSpec.upto valueBackSpec)

/-- 'rabbetlaw1.ValueForms', WHERE WHAT IT READS IS OF BULK AT MOST 1048576: true; the input reads as it did. -/
def valueFormsUptoRow : OpenClaim := { program := "ytbmlipandjbbbaadoor", sum := "ad6bfd34d1ba1db35a47ad4017b2e8bc84653f66e0bc551e4ff8bb93ae5d9916", func := "rabbet/rabbetlaw1.ValueForms", spec := "valueForms", inPlace := ["internal/reflectlite.TypeOf", "internal/bytealg.abigen_runtime_cmpstring"], unfollowed := true, recurses := true, named := ["rabbet/fault.ErrValue", "rabbet/fault.ErrBound", "rabbet/fault.ErrType", "rabbet/fault.ErrShort"], apart := false, laid := [("rabbet/fault.ErrShort", laid_rabbet_fault_ErrShort), ("rabbet/fault.ErrValue", laid_rabbet_fault_ErrValue), ("rabbet/fault.ErrType", laid_rabbet_fault_ErrType), ("rabbet/fault.ErrBound", laid_rabbet_fault_ErrBound)], narrowed := true }
def ValueFormsUptoSaid : Prop := valueFormsUptoRow.holds Tryd.pinned (OpenSpec.upto valueFormsSpec)

/-- 'rabbetlaw1.ValueTypes', WHERE WHAT IT READS IS OF BULK AT MOST 1048576: true; the input reads as it did. -/
def valueTypesUptoRow : OpenClaim := { program := "ytbmlipandjbbbaadoor", sum := "ad6bfd34d1ba1db35a47ad4017b2e8bc84653f66e0bc551e4ff8bb93ae5d9916", func := "rabbet/rabbetlaw1.ValueTypes", spec := "valueTypes", inPlace := ["internal/reflectlite.TypeOf", "internal/bytealg.abigen_runtime_cmpstring"], unfollowed := true, recurses := true, named := ["rabbet/fault.ErrValue", "rabbet/fault.ErrBound", "rabbet/fault.ErrType", "rabbet/fault.ErrShort"], apart := false, laid := [("rabbet/fault.ErrShort", laid_rabbet_fault_ErrShort), ("rabbet/fault.ErrValue", laid_rabbet_fault_ErrValue), ("rabbet/fault.ErrType", laid_rabbet_fault_ErrType), ("rabbet/fault.ErrBound", laid_rabbet_fault_ErrBound)], narrowed := true }
def ValueTypesUptoSaid : Prop := valueTypesUptoRow.holds Tryd.pinned (OpenSpec.upto valueTypesSpec)

/-- 'rabbetlaw2.NumAll', WHERE WHAT IT READS IS OF BULK AT MOST 1048576: true; the input reads as it did. -/
def numAllUptoRow : OpenClaim := { program := "ytbmlipandjbbbaadoor", sum := "ad6bfd34d1ba1db35a47ad4017b2e8bc84653f66e0bc551e4ff8bb93ae5d9916", func := "rabbet/rabbetlaw2.NumAll", spec := "numAll", inPlace := ["internal/reflectlite.TypeOf"], unfollowed := true, recurses := true, named := ["rabbet/num.errNone"], apart := false, laid := [("rabbet/num.errNone", laid_rabbet_num_errNone)], narrowed := true }
def NumAllUptoSaid : Prop := numAllUptoRow.holds Tryd.pinned (OpenSpec.upto numAllSpec)

/-- 'rabbetlaw2.NumBack', WHERE WHAT IT READS IS OF BULK AT MOST 1048576: true; the input reads as it did. -/
def numBackUptoRow : OpenClaim := { program := "ytbmlipandjbbbaadoor", sum := "ad6bfd34d1ba1db35a47ad4017b2e8bc84653f66e0bc551e4ff8bb93ae5d9916", func := "rabbet/rabbetlaw2.NumBack", spec := "numBack", inPlace := ["internal/reflectlite.TypeOf"], unfollowed := true, recurses := true, named := ["rabbet/num.errNone"], apart := false, laid := [("rabbet/num.errNone", laid_rabbet_num_errNone)], narrowed := true }
def NumBackUptoSaid : Prop := numBackUptoRow.holds Tryd.pinned (OpenSpec.upto numBackSpec)

/-- 'rabbetlaw2.NumForms', WHERE WHAT IT READS IS OF BULK AT MOST 1048576: true; the input reads as it did. -/
def numFormsUptoRow : OpenClaim := { program := "ytbmlipandjbbbaadoor", sum := "ad6bfd34d1ba1db35a47ad4017b2e8bc84653f66e0bc551e4ff8bb93ae5d9916", func := "rabbet/rabbetlaw2.NumForms", spec := "numForms", inPlace := ["internal/reflectlite.TypeOf"], unfollowed := true, recurses := true, named := ["rabbet/num.errNone"], apart := false, laid := [("rabbet/num.errNone", laid_rabbet_num_errNone)], narrowed := true }
def NumFormsUptoSaid : Prop := numFormsUptoRow.holds Tryd.pinned (OpenSpec.upto numFormsSpec)

end Rows
end Go.Proofs.YtbmlipandjbbbaaDoor
