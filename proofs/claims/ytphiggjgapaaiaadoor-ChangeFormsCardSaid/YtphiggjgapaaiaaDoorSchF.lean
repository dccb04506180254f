/- schema.Find: first, and its closure. -/
import Derived.Test.YtphiggjgapaaiaaDoorRowsM
import Derived.Shelf.Abstract
namespace Go.Proofs.YtphiggjgapaaiaaDoor
open Go.RowKit
set_option linter.unusedVariables false

theorem str_beq (a b : ByteArray) : (a.toList == b.toList) = decide (a = b) := by
  by_cases h : a = b
  · subst h; simp
  · rw [bytes_ne h]; simp [h]

/-- A place, and whether there is one. -/
def FoundP (o : Option Nat) (w : World) (e : Ending) (w' : World) : Prop := e = .returned (.tuple #[.int .i64 ((o.getD 0 : Nat) : Int), .bool o.isSome]) ∧ Later w w'

end Go.Proofs.YtphiggjgapaaiaaDoor
