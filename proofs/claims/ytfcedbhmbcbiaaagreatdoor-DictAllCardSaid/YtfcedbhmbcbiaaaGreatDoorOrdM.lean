/- How values of one type stand. -/
import Derived.Test.YtfcedbhmbcbiaaaGreatDoorOrd
import Derived.Test.YtfcedbhmbcbiaaaGreatDoorPlainMath
namespace Go.Proofs.YtfcedbhmbcbiaaaGreatDoor
open Go.RowKit
set_option linter.unusedVariables false

theorem cmpV_ok {t : Int} (ht : 1 ≤ t ∧ t ≤ 4) {i i' : Int} {s s' : ByteArray} (h : MayV t i s.size) (h' : MayV t i' s'.size) : cmpV t i s t i' s' = 0 ↔ (i, s) = (i', s') := by
  rw [cmpV_near rfl]
  have hr := rankV_in t
  by_cases h4 : t = 4
  · have h2 : rankV t = 2 := by omega
    rw [if_neg (by omega), if_pos h2]
    have e1 : i = 0 := by unfold MayV at h; omega
    have e2 : i' = 0 := by unfold MayV at h'; omega
    subst e1 e2
    constructor
    · intro e
      have := cmpS_zero _ _ e
      have hs : s = s' := by
        cases s; cases s'
        congr 1
        exact Array.ext' this
      rw [hs]
    · intro e
      cases e
      exact cmpS_self _
  · have h1 : rankV t = 1 := by omega
    rw [if_neg (by omega), if_neg (by omega)]
    have z1 : s.size = 0 := by unfold MayV at h; omega
    have z2 : s'.size = 0 := by unfold MayV at h'; omega
    have hs : s = s' := by
      cases s with | mk d => cases s' with | mk d' =>
        have e1 : d = #[] := by simpa [ByteArray.size] using z1
        have e2 : d' = #[] := by simpa [ByteArray.size] using z2
        rw [e1, e2]
    subst hs
    rcases cmpI_in i i' with h | h | h
    · rw [h.2]; simp; omega
    · rw [h.2]; simp [h.1]
    · rw [h.2]; simp; omega
end Go.Proofs.YtfcedbhmbcbiaaaGreatDoor
