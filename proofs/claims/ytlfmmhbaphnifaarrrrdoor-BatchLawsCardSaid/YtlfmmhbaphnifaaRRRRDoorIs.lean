/- errors.Is, where the target is a sentinel of errors.New's make and the error is nil, or a *fault.Where that wraps such a sentinel. Go's own text is walked. -/
import Derived.Test.YtlfmmhbaphnifaaRRRRDoorChecked
import Derived.WalkKit
import Derived.LaidEql
import Derived.Stop.Asserts
import Derived.RowKitTokens
import Derived.Outline
namespace Go.Proofs.YtlfmmhbaphnifaaRRRRDoor
open Go.RowKit
set_option linter.unusedVariables false

theorem isTypeOf (v : Value) (w : World) : (Extern.ReflectliteType.typeOf #[.iface 193 v]).run Tryd.prog w = .ok (.iface 145 (.agg #[.pointer (some ⟨5, 193, none⟩)])) w := by kernel_rfl
def cmpExt : Array Value → Sem Value := Extern.ReflectliteType.method fun t => do Extern.Rtype.noPackHeld "Comparable" t; pure (.bool (← typeInfo t).comparable)
theorem isComparable (w : World) : (cmpExt #[.agg #[.pointer (some ⟨5, 193, none⟩)]]).run Tryd.prog w = .ok (.bool true) w := by kernel_rfl
theorem isMethodComparable (v : Value) (w : World) : (Go.method 326 145 v "Comparable").run Tryd.prog w = .ok (155, v) w := by kernel_rfl
theorem isComp : (Tryd.prog.info? 193).map (·.comparable) = some true := by kernel_rfl
theorem isSize : (Tryd.prog.info? 214).map (·.size) = some 1 := by kernel_rfl
theorem noUnwrapE (v : Value) (xT : TypeId) (w : World) : (Instr.typeAssert (.iface 193 v) xT 153 true).run Tryd.prog w = .ok (.tuple #[.nilIface, .bool false]) w := run_typeAssert_lacksB Tryd.underlying153 (by kernel_rfl) (by kernel_rfl) v xT w
theorem noUnwrapsE (v : Value) (xT : TypeId) (w : World) : (Instr.typeAssert (.iface 193 v) xT 155 true).run Tryd.prog w = .ok (.tuple #[.nilIface, .bool false]) w := run_typeAssert_lacksB Tryd.underlying155 (by kernel_rfl) (by kernel_rfl) v xT w
theorem hasUnwrapW (v : Value) (xT : TypeId) (w : World) : (Instr.typeAssert (.iface 99 v) xT 153 true).run Tryd.prog w = .ok (.tuple #[.iface 99 v, .bool true]) w := run_typeAssert_hasB Tryd.underlying153 (by kernel_rfl) v xT w
theorem methodUnwrap (v : Value) (w : World) : (Go.method 326 99 v "Unwrap").run Tryd.prog w = .ok (148, v) w := by kernel_rfl

/-- What a call of fault.At has made: the error, its sentinel in its third cell. -/
def Wraps (w : World) (e : Value) (a : Addr) : Prop :=
  ∃ pb po, e = .iface 99 (.pointer (some ⟨pb, po, none⟩)) ∧ w.cell? ⟨pb, po + 2, none⟩ = some (.iface 193 (.pointer (some a)))

end Go.Proofs.YtlfmmhbaphnifaaRRRRDoor
