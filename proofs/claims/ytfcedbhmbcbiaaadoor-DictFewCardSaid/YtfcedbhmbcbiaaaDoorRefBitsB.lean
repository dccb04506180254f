/- Walks of the document's answer for bits: TakeBits. -/
import Derived.Test.YtfcedbhmbcbiaaaDoorRefBitsA
namespace Go.Proofs.YtfcedbhmbcbiaaaDoor
open Go.RowKit
set_option linter.unusedVariables false

theorem run_cv' (A : Option Addr) (n c : Nat) (l : List Nat) (hn : n = l.length) (w : World) (B : Nat) (hr : Rd w B A (ints .u8 l)) :
    (convert 22 9 (.slice A n c)).run Tryd.prog w = .ok (.string (bstr l)) w :=
  run_bstr 22 5 9 Tryd.underlying22 Tryd.underlying5 Tryd.underlying9 A n c l hn w B hr

theorem takeVal (y x s : Nat) (hy : y < 9223372036854775808) : IntKind.u64.wrap (2 * (y : Int) + IntKind.u64.wrap (((x : Int) / 2 ^ s).tmod 2)) = ((2 * y + x / 2 ^ s % 2 : Nat) : Int) := by
  rw [cast_shr]
  generalize x / 2 ^ s = z
  rw [Int.tmod_eq_emod_of_nonneg (by omega), IntKind.wrap_u64, IntKind.wrap_u64]
  omega

end Go.Proofs.YtfcedbhmbcbiaaaDoor
