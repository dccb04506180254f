/- Slices of api.Value: three cells an element. -/
import Derived.Test.YtifejanbgobngaaDoorLater
namespace Go.Proofs.YtifejanbgobngaaDoor
open Go.RowKit
set_option linter.unusedVariables false

/-- A value: its type, its number, its text. -/
abbrev Val3 := Int × Int × ByteArray
def fl (l : List Val3) : List Value := l.flatMap fun x => [.int .i64 x.1, .int .i64 x.2.1, .string x.2.2]
theorem fl_append (a b : List Val3) : fl (a ++ b) = fl a ++ fl b := List.flatMap_append
theorem fl_length : ∀ l : List Val3, (fl l).length = l.length * 3
  | [] => rfl
  | x :: r => by
    have := fl_length r
    show ([_, _, _] ++ fl r).length = _
    rw [List.length_append, this, List.length_cons]
    simp; omega
theorem fl_get : ∀ (l : List Val3) (k : Nat) (h : k < l.length), (fl l)[k * 3]? = some (.int .i64 l[k].1) ∧ (fl l)[k * 3 + 1]? = some (.int .i64 l[k].2.1) ∧ (fl l)[k * 3 + 2]? = some (.string l[k].2.2)
  | x :: r, 0, _ => ⟨rfl, rfl, rfl⟩
  | x :: r, k + 1, h => by
    have ih := fl_get r k (by simpa using h)
    rw [show (k + 1) * 3 = k * 3 + 3 by omega, show k * 3 + 3 + 1 = k * 3 + 1 + 3 by omega, show k * 3 + 3 + 2 = k * 3 + 2 + 3 by omega]
    exact ih
theorem fl_take : ∀ (l : List Val3) (k : Nat), fl (l.take k) = (fl l).take (k * 3)
  | [], k => by simp [fl]
  | x :: r, 0 => by simp [fl]
  | x :: r, k + 1 => by
    have ih := fl_take r k
    rw [show (k + 1) * 3 = k * 3 + 1 + 1 + 1 by omega]
    show [_, _, _] ++ fl (r.take k) = _
    rw [ih]; rfl
theorem fl_one (l : List Val3) : ∀ u ∈ fl l, u.oneCell' = true := by
  intro u hu
  obtain ⟨x, _, hx⟩ := List.mem_flatMap.1 hu
  simp only [List.mem_cons, List.not_mem_nil, or_false] at hx
  rcases hx with rfl | rfl | rfl <;> rfl
/-- The element k of a slice of values, in memory. -/
theorem Has.val3 {w : World} {A : Option Addr} {l : List Val3} (h : Has w A (fl l)) (k : Nat) (hk : k < l.length) :
    ∃ b off, A = some ⟨b, off, none⟩ ∧ w.cell? ⟨b, off + k * 3, none⟩ = some (.int .i64 l[k].1) ∧ w.cell? ⟨b, off + k * 3 + 1, none⟩ = some (.int .i64 l[k].2.1) ∧ w.cell? ⟨b, off + k * 3 + 2, none⟩ = some (.string l[k].2.2) := by
  rcases h with h | ⟨b, off, hA, _, hc⟩
  · have h1 := fl_length l
    rw [h] at h1
    simp at h1
    omega
  · obtain ⟨h0, h1, h2⟩ := fl_get l k hk
    exact ⟨b, off, hA, hc _ _ h0, hc _ _ h1, hc _ _ h2⟩
end Go.Proofs.YtifejanbgobngaaDoor
