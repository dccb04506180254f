/- errors.Is, where the target is a sentinel of errors.New's make and the error is nil, or a *fault.Where that wraps such a sentinel. Go's own text is walked. -/
import Derived.Test.YtlfmmhbaphnifaaRRRRGreatDoorChecked
import Derived.WalkKit
import Derived.LaidEql
import Derived.Stop.Asserts
import Derived.RowKitTokens
import Derived.Outline
namespace Go.Proofs.YtlfmmhbaphnifaaRRRRGreatDoor
open Go.RowKit
set_option linter.unusedVariables false

theorem isTypeOf (v : Value) (w : World) : (Extern.ReflectliteType.typeOf #[.iface 156 v]).run Tryz.prog w = .ok (.iface 106 (.agg #[.pointer (some ⟨2, 156, none⟩)])) w := by kernel_rfl
def cmpExt : Array Value → Sem Value := Extern.ReflectliteType.method fun t => do Extern.Rtype.noPackHeld "Comparable" t; pure (.bool (← typeInfo t).comparable)
theorem isComparable (w : World) : (cmpExt #[.agg #[.pointer (some ⟨2, 156, none⟩)]]).run Tryz.prog w = .ok (.bool true) w := by kernel_rfl
theorem isMethodComparable (v : Value) (w : World) : (Go.method 289 106 v "Comparable").run Tryz.prog w = .ok (128, v) w := by kernel_rfl
theorem isComp : (Tryz.prog.info? 156).map (·.comparable) = some true := by kernel_rfl
theorem isSize : (Tryz.prog.info? 177).map (·.size) = some 1 := by kernel_rfl
theorem noUnwrapE (v : Value) (xT : TypeId) (w : World) : (Instr.typeAssert (.iface 156 v) xT 114 true).run Tryz.prog w = .ok (.tuple #[.nilIface, .bool false]) w := run_typeAssert_lacksB Tryz.underlying114 (by kernel_rfl) (by kernel_rfl) v xT w
theorem noUnwrapsE (v : Value) (xT : TypeId) (w : World) : (Instr.typeAssert (.iface 156 v) xT 116 true).run Tryz.prog w = .ok (.tuple #[.nilIface, .bool false]) w := run_typeAssert_lacksB Tryz.underlying116 (by kernel_rfl) (by kernel_rfl) v xT w
theorem hasUnwrapW (v : Value) (xT : TypeId) (w : World) : (Instr.typeAssert (.iface 63 v) xT 114 true).run Tryz.prog w = .ok (.tuple #[.iface 63 v, .bool true]) w := run_typeAssert_hasB Tryz.underlying114 (by kernel_rfl) v xT w
theorem methodUnwrap (v : Value) (w : World) : (Go.method 289 63 v "Unwrap").run Tryz.prog w = .ok (122, v) w := by kernel_rfl

/-- What a call of fault.At has made: the error, its sentinel in its third cell. -/
def Wraps (w : World) (e : Value) (a : Addr) : Prop :=
  ∃ pb po, e = .iface 63 (.pointer (some ⟨pb, po, none⟩)) ∧ w.cell? ⟨pb, po + 2, none⟩ = some (.iface 156 (.pointer (some a)))

end Go.Proofs.YtlfmmhbaphnifaaRRRRGreatDoor
