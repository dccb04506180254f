/- Worlds behind a row of literals. -/
import Derived.Test.YtklohbglkbhjhaaDoorBase
namespace Go.Proofs.YtklohbglkbhjhaaDoor
open Go.RowKit
set_option linter.unusedVariables false

/-- The world behind so many new blocks. -/
def wLits (w : World) (L : List Obj) : World := L.foldl World.alloc w
theorem wLits_later : ∀ (L : List Obj) (w : World), Later w (wLits w L)
  | [], w => Later.refl w
  | o :: r, w => (Later.new w o).trans (wLits_later r (w.alloc o))
theorem wLits_get : ∀ (L : List Obj) (w : World) (k : Nat) (h : k < L.length), (wLits w L).heap[w.heap.size + k]? = some L[k]
  | o :: r, w, 0, _ => by
    show (wLits (w.alloc o) r).heap[w.heap.size]? = some o
    rw [Below.block (wLits_later r (w.alloc o)) w.heap.size (by simp)]
    exact heap_alloc_new w o
  | o :: r, w, k + 1, h => by
    have := wLits_get r (w.alloc o) k (by simpa using h)
    show (wLits (w.alloc o) r).heap[w.heap.size + (k + 1)]? = some (r[k]'(by simpa using h))
    rw [show w.heap.size + (k + 1) = (w.alloc o).heap.size + k by simp; omega]
    exact this
theorem wLits_blk {w : World} {g : Nat} {L : List Obj} (hg : w.heap.size = g) (k : Nat) {cs : Array Value} {t : TypeId} (h : L[k]? = some (.cells cs t)) : Blk (wLits w L) (g + k) cs t := by
  obtain ⟨hk, he⟩ := List.getElem?_eq_some_iff.1 h
  have := wLits_get L w k hk
  rw [he] at this
  subst hg
  exact this
theorem wLits_size : ∀ (L : List Obj) (w : World), (wLits w L).heap.size = w.heap.size + L.length
  | [], w => rfl
  | o :: r, w => by
    show (wLits (w.alloc o) r).heap.size = _
    rw [wLits_size r (w.alloc o)]
    simp; omega
end Go.Proofs.YtklohbglkbhjhaaDoor
