
import Derived.Test.YtfplppldojlanaaDoorBase
import Derived.Test.YtfplppldojlanaaDoorNumMath
import Derived.Test.YtfplppldojlanaaDoorIs
import Derived.Outline
import Derived.WalkLawsBesides
import Derived.WalkSpells
import Derived.PlainAid
import Derived.Lib.Hide
import Derived.Deep.QuietTactic
import Derived.BigQuiet
import Derived.RegionTactic
import Derived.BigRegion
import Derived.Handy
import Derived.Laws.BitsAllLaws
/- Walks of package num: Put, Zig, Zag; and fault.At. -/

namespace Go.Proofs.YtfplppldojlanaaDoor
open Go.RowKit
set_option linter.unusedVariables false

theorem at_any (s : ByteArray) (p : Int) (e : Value) (x : Value) (w : World) (he : e = .iface 131 x) :
    Calls Tryd.prog 31 #[.string s, .int .i64 p, e] w fun r w' => r = .returned (.iface 86 (.pointer (some ⟨w.heap.size, 0, none⟩))) ∧ w.alloc (.cells #[.string s, .int .i64 p, .iface 131 x] 88) = w' := by
  subst he
  go_enter Tryd.func31, Tryd.ntmps31
  go_wp2
  go_ret
  exact ⟨rfl, rfl⟩

set_option maxRecDepth 100000 in
theorem or128 (y : Nat) : bits .or .u8 ((y : Int) % 256) 128 = ((y % 128 + 128 : Nat) : Int) := by
  have h : ∀ a : Fin 256, a.val ||| 128 = a.val % 128 + 128 := by decide
  have h1 := h ⟨y % 256, Nat.mod_lt _ (by decide)⟩
  have e : ((y : Int) % 256) = ((y % 256 : Nat) : Int) := by simp
  rw [e, show (128 : Int) = ((128 : Nat) : Int) from rfl, u8_or_nat _ _ (Nat.mod_lt _ (by decide)) (by decide), h1]
  congr 1
  show y % 256 % 128 + 128 = _
  omega

/-- What a call hands back that makes bytes: a slice of its own. -/
def Makes (l : List Nat) (w : World) (e : Ending) (w' : World) : Prop :=
  ∃ A c, e = .returned (.slice A l.length c) ∧ w'.ownsRow w.heap.size 5 1 (.slice A l.length c) l.length (ints .u8 l) ∧ Below w.heap.size w w' ∧ (A = none → c = 0)

end Go.Proofs.YtfplppldojlanaaDoor

/- Walks of package num: read, Take. -/

namespace Go.Proofs.YtfplppldojlanaaDoor
open Go.RowKit
set_option linter.unusedVariables false

/-- What read tells. -/
def ReadPost (b : List Nat) (a : Addr) (w : World) (e : Ending) (w' : World) : Prop :=
  match takeNum b with
  | some (v, n) => e = .returned (.tuple #[.int .u64 (v : Int), .int .i64 (n : Int), .nilIface]) ∧ w = w'
  | none => ∃ s p, e = .returned (.tuple #[.int .u64 0, .int .i64 0, .iface 86 (.pointer (some ⟨w.heap.size, 0, none⟩))]) ∧
      w.alloc (.cells #[.string s, .int .i64 p, .iface 131 (.pointer (some a))] 88) = w'

theorem readPost_some {b : List Nat} {a : Addr} {w : World} {v n : Nat} (h : takeNum b = some (v, n)) : ReadPost b a w (.returned (.tuple #[.int .u64 (v : Int), .int .i64 (n : Int), .nilIface])) w := by
  unfold ReadPost; rw [h]; exact ⟨rfl, rfl⟩
theorem readPost_none {b : List Nat} {a : Addr} {w : World} (s : ByteArray) (p : Int) (h : takeNum b = none) :
    ReadPost b a w (.returned (.tuple #[.int .u64 0, .int .i64 0, .iface 86 (.pointer (some ⟨w.heap.size, 0, none⟩))])) (w.alloc (.cells #[.string s, .int .i64 p, .iface 131 (.pointer (some a))] 88)) := by
  unfold ReadPost; rw [h]; exact ⟨s, p, rfl, rfl⟩

set_option maxRecDepth 100000 in
theorem and127 (x : Nat) (hx : x < 256) : bits .and .u8 (x : Int) 127 = ((x % 128 : Nat) : Int) := by
  have h : ∀ a : Fin 256, a.val &&& 127 = a.val % 128 := by decide
  have h1 := h ⟨x, hx⟩
  rw [show (127 : Int) = ((127 : Nat) : Int) from rfl, u8_and_nat _ _ hx (by decide), h1]
theorem step_lt (x k : Nat) (hk : k ≤ 9) (h : k = 9 → x ≤ 1) : x % 128 * 2 ^ (7 * k) < 18446744073709551616 := by
  by_cases h9 : k = 9
  · have := h h9
    subst h9
    omega
  · have h1 : 2 ^ (7 * k) ≤ 2 ^ 56 := Nat.pow_le_pow_right (by omega) (by omega)
    have h2 : x % 128 ≤ 127 := by omega
    have := Nat.mul_le_mul h2 h1
    omega
theorem orStep (v x k : Nat) (hk : k ≤ 9) (hv : v < 2 ^ (7 * k)) (h : x % 128 * 2 ^ (7 * k) < 18446744073709551616) :
    bits BinOp.or IntKind.u64 (v : Int) (IntKind.u64.wrap ((x : Int) % 128 * 2 ^ (7 * k))) = ((v + x % 128 * 2 ^ (7 * k) : Nat) : Int) := by
  have e : (x : Int) % 128 * 2 ^ (7 * k) = ((x % 128 * 2 ^ (7 * k) : Nat) : Int) := by simp
  have hv64 : v < 18446744073709551616 := by
    have : 2 ^ (7 * k) ≤ 2 ^ 63 := Nat.pow_le_pow_right (by omega) (by omega)
    omega
  rw [e, IntWalk.u64_in _ ⟨by omega, by omega⟩]
  rw [u64_or_nat _ _ hv64 h, Nat.or_comm, or_add _ _ (7 * k) (Nat.mul_mod_left _ _) hv, Nat.add_comm]
theorem sum_next (v x k : Nat) (hv : v < 2 ^ (7 * k)) : v + x % 128 * 2 ^ (7 * k) < 2 ^ (7 * (k + 1)) := by
  rw [pow7]
  have h2 : x % 128 + 1 ≤ 128 := by omega
  have h3 := Nat.mul_le_mul_right (2 ^ (7 * k)) h2
  rw [Nat.succ_mul] at h3
  omega
theorem drop_get (b : List Nat) (k : Nat) (h : k < b.length) : b.drop k = b[k] :: b.drop (k + 1) := List.drop_eq_getElem_cons h

/-- What Take tells. -/
def takeR (b : List Nat) : Nat × Nat × Bool := match takeNum b with | some (v, n) => (v, n, true) | none => (0, 0, false)
def TakePost (b : List Nat) (w : World) (e : Ending) (w' : World) : Prop :=
  ∃ v n ok, takeR b = (v, n, ok) ∧ e = .returned (.tuple #[.int .u64 (v : Nat), .int .i64 (n : Nat), .bool ok]) ∧ Below w.heap.size w w'

theorem takePost_none {b : List Nat} {w w' : World} (h : takeNum b = none) (hb : Below w.heap.size w w') : TakePost b w (.returned (.tuple #[.int .u64 0, .int .i64 0, .bool false])) w' :=
  ⟨0, 0, false, by unfold takeR; rw [h], rfl, hb⟩
theorem takePost_some {b : List Nat} {w w' : World} {v n : Nat} (h : takeNum b = some (v, n)) (hb : Below w.heap.size w w') : TakePost b w (.returned (.tuple #[.int .u64 (v : Nat), .int .i64 (n : Nat), .bool true])) w' :=
  ⟨v, n, true, by unfold takeR; rw [h], rfl, hb⟩

end Go.Proofs.YtfplppldojlanaaDoor
