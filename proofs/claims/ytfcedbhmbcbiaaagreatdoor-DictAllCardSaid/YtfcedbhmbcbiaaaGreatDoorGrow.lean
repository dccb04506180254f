/- A world that has grown alone: draws, and blocks behind (what the library's sort asks of the function that it calls). -/
import Derived.Test.YtfcedbhmbcbiaaaGreatDoorBase
import Derived.Sort.Grow
namespace Go.Proofs.YtfcedbhmbcbiaaaGreatDoor
open Go.RowKit
set_option linter.unusedVariables false

def Grows (w w' : World) : Prop := ∃ (q : Nat) (os : Array Obj), w' = Go.Sort.grow (w.drewN q) os
theorem Grows.refl (w : World) : Grows w w := ⟨0, #[], by rw [Go.Sort.grow_empty]; rfl⟩
theorem Grows.alloc {w w' : World} (h : Grows w w') (o : Obj) : Grows w (w'.alloc o) := by
  obtain ⟨q, os, rfl⟩ := h
  exact ⟨q, os ++ #[o], by rw [Go.Sort.alloc_eq_grow, Go.Sort.grow_grow]⟩
theorem Grows.new (w : World) (o : Obj) : Grows w (w.alloc o) := (Grows.refl w).alloc o
theorem Grows.trans {w w' w'' : World} (h : Grows w w') (k : Grows w' w'') : Grows w w'' := by
  obtain ⟨q, os, rfl⟩ := h
  obtain ⟨r, us, rfl⟩ := k
  refine ⟨q + r, os ++ us, ?_⟩
  show Go.Sort.grow (Go.Sort.grow ((w.drewN q).drewN r) os) us = _
  rw [Go.Sort.grow_grow, World.drewN_drewN]
theorem later_grow (w : World) : ∀ l : List Obj, Later w (Go.Sort.grow w l.reverse.toArray)
  | [] => by rw [show (([] : List Obj).reverse.toArray) = #[] from rfl, Go.Sort.grow_empty]; exact Later.refl w
  | o :: l => by
    have e : Go.Sort.grow w (o :: l).reverse.toArray = (Go.Sort.grow w l.reverse.toArray).alloc o := by
      rw [Go.Sort.alloc_eq_grow, Go.Sort.grow_grow]
      congr 1
      simp
    rw [e]
    exact (later_grow w l).alloc o
theorem Grows.later {w w' : World} (h : Grows w w') : Later w w' := by
  obtain ⟨q, os, rfl⟩ := h
  have := later_grow (w.drewN q) os.toList.reverse
  rw [List.reverse_reverse, Array.toArray_toList] at this
  exact ((Later.refl w).drewN q).trans this
end Go.Proofs.YtfcedbhmbcbiaaaGreatDoor
