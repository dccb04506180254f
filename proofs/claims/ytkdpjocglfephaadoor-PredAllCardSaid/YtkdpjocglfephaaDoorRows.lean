/-
  NARROWER THAN 'FOR EVERY INPUT', by the rows' own cells (each row's printed sentence says how): PredAll: laid · AggAll: laid.
  DERIVED. THE GIVEN ROWS OF THIS SEAT. 2 by the template 'for every input the law returns true; each argument reads behind the call as it read before'; 0 by the template 'total and deterministic' (their statements: YtkdpjocglfephaaDoorTotals.lean).
  GIVEN WITH THE SEED: the statements are not yours to turn. If you find one false, say at which input.
  Laid BY PROGRAM, IN A SANDBOX (cutbox-rows.mjs): the forced cells as the released guide's own fill.sh prints them over the translation b73e46f2577a95b2… (all of the seat's roots in one cut). By AI agents, Wed Nov 11 2026. No macro, syntax, notation, axiom, sorry.
-/
import Derived.Test.YtkdpjocglfephaaDoorChecked
import GoSem.Claim
import GoSem.ClaimJoined
import GoSem.ClaimMapViews
import Derived.JoinedTies
import Derived.KernelRfl
namespace Go.Proofs.YtkdpjocglfephaaDoor
/- THE CELL 'sum', in the pinned program and in every row, IS THE sha256 OF THE DUMP (.gsa) THAT YtkdpjocglfephaaDoorProg.lean LOADS. Nothing in Lean hashes anything: it is a label: what it is worth is what the hold of that sum in a sandbox is worth. -/
noncomputable def Tryd.pinned : Pinned := { name := "ytkdpjocglfephaadoor", sum := "b73e46f2577a95b2f7064338e2613ee15dbf5cee75f67ba3a430c813c15c24a2", checked := Tryd.checked }
namespace Rows
def none {H : Type} : Left H := { results := [], args := [] }

/- WHAT THE LISTED PACKAGE-LEVEL VARIABLES READ AS WHEN THE CALL BEGINS. Each datum BY PROGRAM (the guide's laid-datum.mjs) off the statement by which the dump's own 'gosem.cut.vars' lays the variable. In a bare row this is a premise. The card (YtkdpjocglfephaaDoorCards.lean) ties it to the program's text. -/
def laid_errors_errorType {H : Type} : DataW H := .iface "internal/reflectlite.rtype" (.agg [.ptr (.lit (.string [101, 114, 114, 111, 114]))])
def laid_rabbet_fault_ErrValue {H : Type} : DataW H := .iface "*errors.errorString" (.ptr (.agg [.lit (.string [105, 116, 32, 109, 97, 121, 32, 110, 111, 116, 32, 98, 101])]))
def laid_rabbet_fault_ErrType {H : Type} : DataW H := .iface "*errors.errorString" (.ptr (.agg [.lit (.string [105, 116, 32, 105, 115, 32, 111, 102, 32, 97, 110, 111, 116, 104, 101, 114, 32, 116, 121, 112, 101])]))
def laid_rabbet_fault_ErrBound {H : Type} : DataW H := .iface "*errors.errorString" (.ptr (.agg [.lit (.string [105, 116, 32, 105, 115, 32, 111, 117, 116, 32, 111, 102, 32, 98, 111, 117, 110, 100, 115])]))
def laid_rabbet_agg_errArg {H : Type} : DataW H := .iface "*errors.errorString" (.ptr (.agg [.lit (.string [105, 116, 32, 109, 97, 121, 32, 110, 111, 116, 32, 98, 101])]))
def laid_rabbet_agg_errType {H : Type} : DataW H := .iface "*errors.errorString" (.ptr (.agg [.lit (.string [110, 111, 32, 110, 117, 109, 98, 101, 114, 32, 116, 111, 32, 98, 101, 32, 115, 117, 109, 109, 101, 100, 32, 117, 112])]))
def laid_rabbet_agg_errOver {H : Type} : DataW H := .iface "*errors.errorString" (.ptr (.agg [.lit (.string [97, 32, 115, 117, 109, 32, 98, 101, 121, 111, 110, 100, 32, 97, 110, 32, 73, 110, 116])]))

/-- 'rabbetlaw23.PredAll': WHATEVER THE INPUT: true; the input reads as it did. -/
def predAllSpec : ChangeSpec := { name := "predAll", fn := fun _ => fun
  | [d1, d2, d3] => { results := [.lit (.bool true)], args := [d1, d2, d3] }
  | _ => none }
def predAllRow : OpenClaim := { program := "ytkdpjocglfephaadoor", sum := "b73e46f2577a95b2f7064338e2613ee15dbf5cee75f67ba3a430c813c15c24a2", func := "rabbet/rabbetlaw23.PredAll", spec := "predAll", inPlace := ["internal/bytealg.abigen_runtime_cmpstring", "internal/reflectlite.ValueOf", "(internal/reflectlite.Value).Type", "(internal/reflectlite.Value).IsNil", "internal/reflectlite.TypeOf", "(internal/reflectlite.Value).Elem", "(internal/reflectlite.Value).Set"], unfollowed := true, recurses := true, named := ["rabbet/fault.ErrValue", "rabbet/fault.ErrBound", "rabbet/fault.ErrType", "errors.errorType"], apart := false, laid := [("errors.errorType", laid_errors_errorType), ("rabbet/fault.ErrValue", laid_rabbet_fault_ErrValue), ("rabbet/fault.ErrType", laid_rabbet_fault_ErrType), ("rabbet/fault.ErrBound", laid_rabbet_fault_ErrBound)] }
def PredAllSaid : Prop := predAllRow.holds Tryd.pinned (OpenSpec.ofChange predAllSpec)

/-- ITS FALSE NEIGHBOUR: 'it returns false'. Refute it at one input. -/
def predAllWrong : ChangeSpec := { name := "predAll", fn := fun _ => fun
  | [d1, d2, d3] => { results := [.lit (.bool false)], args := [d1, d2, d3] }
  | _ => none }
def PredAllWrongFalsely : Prop := predAllRow.holds Tryd.pinned (OpenSpec.ofChange predAllWrong)

/-- 'rabbetlaw24.AggAll': WHATEVER THE INPUT: true; the input reads as it did. -/
def aggAllSpec : ChangeSpec := { name := "aggAll", fn := fun _ => fun
  | [d1, d2, d3, d4] => { results := [.lit (.bool true)], args := [d1, d2, d3, d4] }
  | _ => none }
def aggAllRow : OpenClaim := { program := "ytkdpjocglfephaadoor", sum := "b73e46f2577a95b2f7064338e2613ee15dbf5cee75f67ba3a430c813c15c24a2", func := "rabbet/rabbetlaw24.AggAll", spec := "aggAll", inPlace := ["internal/bytealg.abigen_runtime_cmpstring", "math/bits.Add64", "internal/reflectlite.TypeOf"], unfollowed := true, recurses := true, named := ["rabbet/agg.errArg", "rabbet/agg.errType", "rabbet/agg.errOver"], apart := false, laid := [("rabbet/agg.errArg", laid_rabbet_agg_errArg), ("rabbet/agg.errType", laid_rabbet_agg_errType), ("rabbet/agg.errOver", laid_rabbet_agg_errOver)] }
def AggAllSaid : Prop := aggAllRow.holds Tryd.pinned (OpenSpec.ofChange aggAllSpec)

/-- ITS FALSE NEIGHBOUR: 'it returns false'. Refute it at one input. -/
def aggAllWrong : ChangeSpec := { name := "aggAll", fn := fun _ => fun
  | [d1, d2, d3, d4] => { results := [.lit (.bool false)], args := [d1, d2, d3, d4] }
  | _ => none }
def AggAllWrongFalsely : Prop := aggAllRow.holds Tryd.pinned (OpenSpec.ofChange aggAllWrong)

/- THE SECOND FORM. 'bulk': how many values and letters a reading holds, each counted each time it is reached (what is shared counts as often as it is met; a slice's spare places count too). A statement '..UptoSaid' is the law's where the arguments, and the package variables that the reading takes, are together of bulk at most 1048576: NARROWER than '..Said'. Prove '..Said' where nothing that the law and all that it calls make is longer than what came in: it says more and counts as full. Else prove '..UptoSaid'. A law counts once. -/
mutual
def uptoBulk {H : Type} : DataW H → Nat
  | .lit (.string bytes) => bytes.length + 1
  | .lit _ => 1
  | .nil => 1
  | .ptr d => uptoBulk d + 1
  | .slice elems spare => uptoBulkAll elems + uptoBulkAll spare + 1
  | .agg parts => uptoBulkAll parts + 1
  | .iface _ d => uptoBulk d + 1
  | .map entries => uptoBulkEntries entries + 1
  | .held _ => 1
def uptoBulkAll {H : Type} : List (DataW H) → Nat
  | [] => 0
  | d :: r => uptoBulk d + uptoBulkAll r
def uptoBulkEntries {H : Type} : List (Lit × DataW H) → Nat
  | [] => 0
  | x :: r => uptoBulkEntry x + uptoBulkEntries r
def uptoBulkEntry {H : Type} : Lit × DataW H → Nat
  | (.string bytes, d) => bytes.length + uptoBulk d + 1
  | (_, d) => uptoBulk d + 1
 end
def uptoSmall : (H : Type) → List (DataW H) → Bool := fun _ ds => decide (uptoBulkAll ds ≤ 1048576)
def OpenSpec.upto (s : _root_.Go.ChangeSpec) : _root_.Go.OpenSpec := { _root_.Go.OpenSpec.ofChange s with cond := some uptoSmall }

/-- 'rabbetlaw23.PredAll', WHERE WHAT IT READS IS OF BULK AT MOST 1048576: true; the input reads as it did. -/
def predAllUptoRow : OpenClaim := { program := "ytkdpjocglfephaadoor", sum := "b73e46f2577a95b2f7064338e2613ee15dbf5cee75f67ba3a430c813c15c24a2", func := "rabbet/rabbetlaw23.PredAll", spec := "predAll", inPlace := ["internal/bytealg.abigen_runtime_cmpstring", "internal/reflectlite.ValueOf", "(internal/reflectlite.Value).Type", "(internal/reflectlite.Value).IsNil", "internal/reflectlite.TypeOf", "(internal/reflectlite.Value).Elem", "(internal/reflectlite.Value).Set"], unfollowed := true, recurses := true, named := ["rabbet/fault.ErrValue", "rabbet/fault.ErrBound", "rabbet/fault.ErrType", "errors.errorType"], apart := false, laid := [("errors.errorType", laid_errors_errorType), ("rabbet/fault.ErrValue", laid_rabbet_fault_ErrValue), ("rabbet/fault.ErrType", laid_rabbet_fault_ErrType), ("rabbet/fault.ErrBound", laid_rabbet_fault_ErrBound)], narrowed := true }
def PredAllUptoSaid : Prop := predAllUptoRow.holds Tryd.pinned (OpenSpec.upto predAllSpec)

/-- 'rabbetlaw24.AggAll', WHERE WHAT IT READS IS OF BULK AT MOST 1048576: true; the input reads as it did. -/
def aggAllUptoRow : OpenClaim := { program := "ytkdpjocglfephaadoor", sum := "b73e46f2577a95b2f7064338e2613ee15dbf5cee75f67ba3a430c813c15c24a2", func := "rabbet/rabbetlaw24.AggAll", spec := "aggAll", inPlace := ["internal/bytealg.abigen_runtime_cmpstring", "math/bits.Add64", "internal/reflectlite.TypeOf"], unfollowed := true, recurses := true, named := ["rabbet/agg.errArg", "rabbet/agg.errType", "rabbet/agg.errOver"], apart := false, laid := [("rabbet/agg.errArg", laid_rabbet_agg_errArg), ("rabbet/agg.errType", laid_rabbet_agg_errType), ("rabbet/agg.errOver", laid_rabbet_agg_errOver)], narrowed := true }
def AggAllUptoSaid : Prop := aggAllUptoRow.holds Tryd.pinned (OpenSpec.upto aggAllSpec)

end Rows
end Go.Proofs.YtkdpjocglfephaaDoor
