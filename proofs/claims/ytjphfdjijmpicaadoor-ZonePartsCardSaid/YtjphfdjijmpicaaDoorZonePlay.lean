/- What the laws of zones share: values that are made, one behind the other. -/
import Derived.Test.YtjphfdjijmpicaaDoorZoneB
import Derived.Test.YtjphfdjijmpicaaDoorPlayV
import Derived.Maps.AppendAt
namespace Go.Proofs.YtjphfdjijmpicaaDoor
open Go.RowKit
set_option linter.unusedVariables false

/-- The values made so far, and the picks. -/
def ZcInv (t : Int) (N g : Nat) (A : Option Addr) (n c : Nat) (w : World) (lv iv : Value) (wr : World) : Prop :=
  ∃ (l : List Val3) (L : Option Addr) (cl j k : Nat), lv = .slice L l.length cl ∧ iv = .int .i64 j ∧ j ≤ N ∧ l.length = j ∧ k ≤ n ∧ (∀ x ∈ l, Kind3 t x) ∧ All64 l ∧ wr.ownsRow (g + 1) 28 3 (.slice L l.length cl) l.length (fl l) ∧ Pk wr g A n c k ∧ Later w wr
theorem ZcInv.mk {t : Int} {N g : Nat} {A : Option Addr} {n c : Nat} {w wr : World} (l : List Val3) (L : Option Addr) (m cl k : Nat) (i : Int) (j : Nat) (hm : m = l.length) (hi : i = (j : Int)) (hj : j ≤ N) (hlj : l.length = j) (hk : k ≤ n) (ok : ∀ x ∈ l, Kind3 t x) (a : All64 l) (o : wr.ownsRow (g + 1) 28 3 (.slice L m cl) m (fl l)) (p : Pk wr g A n c k) (lat : Later w wr) : ZcInv t N g A n c w (.slice L m cl) (.int .i64 i) wr := by
  subst hm hi
  exact ⟨l, L, cl, j, k, rfl, rfl, hj, hlj, hk, ok, a, o, p, lat⟩
theorem kind3_made {t vt i : Int} {s : ByteArray} (ht : 1 ≤ t ∧ t ≤ 4) (h : (vt = 0 ∧ i = 0 ∧ s = ⟨#[]⟩) ∨ (vt = tyOf t ∧ MayV vt i s.size ∧ In64 i)) : Kind3 t (vt, i, s) ∧ In64 i := by
  have e : tyOf t = t := by unfold tyOf; split <;> omega
  rcases h with ⟨rfl, rfl, rfl⟩ | ⟨rfl, h1, h2⟩
  · exact ⟨⟨.inl rfl, .inl ⟨rfl, rfl, rfl⟩⟩, by unfold In64; decide⟩
  · exact ⟨⟨.inr e, h1⟩, h2⟩
end Go.Proofs.YtjphfdjijmpicaaDoor
