/- 'Later w w'': of w nothing has turned in w'; facts that are handed on. -/
import Derived.Test.YtifejanbgobngaaDoorOpen
import Derived.Lib.Hide
import Derived.Deep.Quiet
namespace Go.Proofs.YtifejanbgobngaaDoor
open Go.RowKit
set_option linter.unusedVariables false

/-- w' is w with more: each block of w is as it was. -/
def Later (w w' : World) : Prop := Below w.heap.size w w'
section
variable {w w' w'' : World} {A : Option Addr} {xs : List Value}
theorem Later.below (h : Later w w') : Below w.heap.size w w' := h
theorem Later.of (h : Below w.heap.size w w') : Later w w' := h
theorem Later.refl (w : World) : Later w w := Below.refl _ _
theorem Later.size (h : Later w w') : w.heap.size ≤ w'.heap.size := Below.size h
theorem Later.trans (h : Later w w') (k : Later w' w'') : Later w w'' := Below.trans h (Below.mono k (Below.size h))
theorem Later.drew (h : Later w w') : Later w w'.drew := Below.drew h
theorem Later.drewN (h : Later w w') (n : Nat) : Later w (w'.drewN n) := Below.trans h ⟨rfl, rfl, rfl, Nat.le_refl _, fun _ _ => rfl⟩
theorem Later.alloc (h : Later w w') (o : Obj) : Later w (w'.alloc o) := Below.alloc h (Below.size h) o
theorem Later.new (w : World) (o : Obj) : Later w (w.alloc o) := (Later.refl w).alloc o
theorem Later.set_ (h : Later w w') {p : Addr} (hp : w.heap.size ≤ p.block) (u : Value) : Later w (w'.setCell p u) := Below.setCell h hp u
theorem Later.cell (h : Later w w') {p : Addr} {v : Value} (hc : w.cell? p = some v) : w'.cell? p = some v := (Below.cell h (block_lt_of_cell hc)).trans hc
theorem Later.row (h : Later w w') {g : Nat} {t : TypeId} {k : IntKind} {l : List Nat} (hr : Row w g t k l) : Row w' g t k l := hr.below h hr.lt

/-- The slice holds xs, in a block of w. -/
def Has (w : World) (A : Option Addr) (xs : List Value) : Prop := Rd w w.heap.size A xs
theorem Has.rd (h : Has w A xs) : Rd w w.heap.size A xs := h
theorem Has.of {B : Nat} (h : Rd w B A xs) (hB : B ≤ w.heap.size) : Has w A xs := Rd.more h hB
theorem Has.later (h : Has w A xs) (l : Later w w') : Has w' A xs := Rd.more (Rd.below h l) l.size
theorem Has.take (h : Has w A xs) (j : Nat) : Has w A (xs.take j) := by
  rcases h with rfl | ⟨b, off, hA, hb, hc⟩
  · left; simp
  · refine .inr ⟨b, off, hA, hb, fun i v hv => ?_⟩
    rw [List.getElem?_take] at hv
    split at hv
    · exact hc i v hv
    · cases hv
theorem Has.nil_ : Has w A [] := .inl rfl
theorem Has.lit (w : World) (t : TypeId) (k : IntKind) (l : List Nat) : Has (w.alloc (.cells (ints k l).toArray t)) (some ⟨w.heap.size, 0, none⟩) (ints k l) := Has.of (rd_lit w t k l _ rfl) (by simp)
theorem Has.row {g : Nat} {t : TypeId} {k : IntKind} {l : List Nat} (h : Row w g t k l) : Has w (some ⟨g, 0, none⟩) (ints k l) := h.rd
theorem Has.own {base : Nat} {e : TypeId} {c n : Nat} (h : w.ownsRow base e 1 (.slice A n c) n xs) : Has w A xs := Rd.own h
theorem Has.drop {b off : Nat} (h : Has w (some ⟨b, off, none⟩) xs) (j : Nat) : Has w (some ⟨b, off + j, none⟩) (xs.drop j) := by
  rcases h with rfl | ⟨b', off', hA, hb, hc⟩
  · left; simp
  · injection hA with hA
    injection hA with h1 h2
    subst h1 h2
    refine .inr ⟨b, off + j, rfl, hb, fun i v hv => ?_⟩
    rw [List.getElem?_drop] at hv
    have := hc (j + i) v hv
    rwa [show off + j + i = off + (j + i) by omega]
/-- Block g is just these cells. -/
def Blk (w : World) (g : Nat) (cs : Array Value) (t : TypeId) : Prop := w.heap[g]? = some (.cells cs t (0, 0))
theorem Blk.lt {g : Nat} {cs : Array Value} {t : TypeId} (h : Blk w g cs t) : g < w.heap.size := by
  rcases Nat.lt_or_ge g w.heap.size with hlt | hge
  · exact hlt
  · unfold Blk at h; rw [Array.getElem?_eq_none hge] at h; cases h
theorem Blk.later {g : Nat} {cs : Array Value} {t : TypeId} (h : Blk w g cs t) (l : Later w w') : Blk w' g cs t := (Below.block l g h.lt).trans h
theorem Blk.cell {g : Nat} {cs : Array Value} {t : TypeId} (h : Blk w g cs t) (k : Nat) (v : Value) (hk : cs[k]? = some v) : w.cell? ⟨g, k, none⟩ = some v := by
  rw [cell_of_row w g k cs t (0, 0) h]; exact hk
theorem Blk.frozen {g : Nat} {cs : Array Value} {t : TypeId} (h : Blk w g cs t) (k : Nat) : w.frozen? ⟨g, k, none⟩ = false := by
  unfold Blk at h; simp [World.frozen?, h]
theorem Blk.new (w : World) (cs : Array Value) (t : TypeId) (n : Nat) (hn : n = w.heap.size) : Blk (w.alloc (.cells cs t)) n cs t := by
  subst hn; exact heap_alloc_new w _
theorem Blk.drew {g : Nat} {cs : Array Value} {t : TypeId} (h : Blk w g cs t) : Blk w.drew g cs t := h
theorem Blk.set_ {g : Nat} {cs : Array Value} {t : TypeId} (h : Blk w g cs t) (k : Nat) (v : Value) : Blk (w.setCell ⟨g, k, none⟩ v) g (cs.setIfInBounds k v) t := by
  unfold Blk at h ⊢
  simp [World.setCell, Array.getElem?_modify, h]
theorem Blk.far {g : Nat} {cs : Array Value} {t : TypeId} (h : Blk w g cs t) {p : Addr} (hp : g ≠ p.block) (v : Value) : Blk (w.setCell p v) g cs t := (Below.heap_setCell w p v g hp).trans h
/-- The cell at a place, as a fact that the walk doesn't take for a rule. -/
def CellIs (w : World) (p : Addr) (v : Value) : Prop := w.cell? p = some v
theorem CellIs.later {p : Addr} {v : Value} (h : CellIs w p v) (l : Later w w') : CellIs w' p v := l.cell h
theorem CellIs.out {p : Addr} {v : Value} (h : CellIs w p v) : w.cell? p = some v := h
theorem CellIs.drew {p : Addr} {v : Value} (h : CellIs w p v) : CellIs w.drew p v := h
theorem CellIs.far {p q : Addr} {v u : Value} (h : CellIs w p v) (hne : p.block ≠ q.block) : CellIs (w.setCell q u) p v := (World.cell?_of_block (w := w) (Below.heap_setCell w q u p.block hne)).trans h
theorem CellIs.new (w : World) (cs : Array Value) (t : TypeId) (n k : Nat) (v : Value) (hn : n = w.heap.size) (h : cs[k]? = some v) : CellIs (w.alloc (.cells cs t)) ⟨n, k, none⟩ v := by
  unfold CellIs; subst hn; rw [World.cell?_alloc_at _ _ _ _ rfl]; simp [h]
end
end Go.Proofs.YtifejanbgobngaaDoor
