/- Slices of bool: words. -/
import Derived.Test.YtfcedbhmbcbiaaaDoorBase
import Derived.Test.YtfcedbhmbcbiaaaDoorOpenX
namespace Go.Proofs.YtfcedbhmbcbiaaaDoor
open Go.RowKit
set_option linter.unusedVariables false

/-- Bits as numbers. -/
def nbits (l : List Bool) : List Nat := l.map Bool.toNat
theorem nbits_length (l : List Bool) : (nbits l).length = l.length := by simp [nbits]
theorem nbits_lt (l : List Bool) : ∀ x ∈ nbits l, x < 2 ^ 1 := by
  intro x hx
  obtain ⟨b, _, rfl⟩ := List.mem_map.1 hx
  cases b <;> decide
theorem nbits_get (l : List Bool) (i : Nat) (h : i < l.length) : (nbits l)[i]'(by rw [nbits_length]; exact h) = (l[i]).toNat := by simp [nbits]
theorem bools_take (l : List Bool) (j : Nat) : (bools l).take j = bools (l.take j) := by simp [bools, List.map_take]
theorem bools_drop (l : List Bool) (j : Nat) : (bools l).drop j = bools (l.drop j) := by simp [bools, List.map_drop]
theorem of_bools {w : World} {a : Option Addr} {len cap : Nat} {zs : List Bool} (h : IsBools w a len cap zs) :
    ∃ l : List Bool, l.length = len ∧ Has w a (bools l) ∧ len ≤ cap ∧ cap ≤ maxLen ∧ (a = none → cap = 0) := by
  rcases h with ⟨rfl, rfl, rfl, rfl⟩ | ⟨x, rfl, hl, hm, hz, hc⟩
  · exact ⟨[], rfl, .inl rfl, Nat.le_refl _, by unfold maxLen; omega, fun _ => rfl⟩
  · refine ⟨zs.take len, by simp; omega, ?_, hl, hm, fun h => by cases h⟩
    rcases Nat.eq_zero_or_pos len with rfl | hp
    · left; simp [bools]
    · obtain ⟨b, off, spot⟩ := x
      have h0 := hc 0 (by omega)
      have hspot : spot = none := by simpa [Addr.add] using World.cell?_spot h0
      subst hspot
      have hb := block_lt_of_cell h0
      rw [add_plain] at hb
      refine .inr ⟨b, off, rfl, hb, fun i v hv => ?_⟩
      have hi : i < len := by
        have := (List.getElem?_eq_some_iff.1 hv).1
        rw [bools_length, List.length_take] at this
        omega
      have h1 := hc i (by omega)
      rw [add_plain] at h1
      rw [h1, ← hv]
      simp [bools, List.getD_eq_getElem?_getD, show i < zs.length by omega, hi]
end Go.Proofs.YtfcedbhmbcbiaaaDoor
