/- Walks of the laws' helper some. -/
import Derived.Test.YtfcedbhmbcbiaaaGreatDoorPlayV
import Derived.Test.YtfcedbhmbcbiaaaGreatDoorLists
namespace Go.Proofs.YtfcedbhmbcbiaaaGreatDoor
open Go.RowKit
set_option linter.unusedVariables false

theorem tyOf_is (t : Int) : 1 ≤ tyOf t ∧ tyOf t ≤ 4 := by unfold tyOf; split <;> omega
/-- What some gives: values of the type, none of them nothing. -/
def SomePost (t : Int) (N : Nat) (w : World) (e : Ending) (w' : World) : Prop :=
  ∃ (l : List Val3) (L : Option Addr) (cl : Nat), e = .returned (.slice L l.length cl) ∧ Has w' L (fl l) ∧ OkL (tyOf t) l ∧ All64 l ∧ l.length ≤ N ∧ l.length ≤ cl ∧ cl ≤ 9223372036854775807 ∧ (L = none → cl = 0) ∧ Later w w'
def SomeInv (t : Int) (N g : Nat) (A : Option Addr) (n c : Nat) (w : World) (lv iv : Value) (wr : World) : Prop :=
  ∃ (l : List Val3) (L : Option Addr) (cl j k : Nat), lv = .slice L l.length cl ∧ iv = .int .i64 j ∧ j ≤ N ∧ l.length ≤ j ∧ k ≤ n ∧ OkL (tyOf t) l ∧ All64 l ∧ wr.ownsRow (g + 1) 26 3 (.slice L l.length cl) l.length (fl l) ∧ Pk wr g A n c k ∧ Later w wr
theorem SomeInv.mk {t : Int} {N g : Nat} {A : Option Addr} {n c : Nat} {w wr : World} (l : List Val3) (L : Option Addr) (m cl k : Nat) (i : Int) (j : Nat) (hm : m = l.length) (hi : i = (j : Int)) (hj : j ≤ N) (hlj : l.length ≤ j) (hk : k ≤ n) (ok : OkL (tyOf t) l) (a : All64 l) (o : wr.ownsRow (g + 1) 26 3 (.slice L m cl) m (fl l)) (p : Pk wr g A n c k) (lat : Later w wr) : SomeInv t N g A n c w (.slice L m cl) (.int .i64 i) wr := by
  subst hm hi
  exact ⟨l, L, cl, j, k, rfl, rfl, hj, hlj, hk, ok, a, o, p, lat⟩
end Go.Proofs.YtfcedbhmbcbiaaaGreatDoor
