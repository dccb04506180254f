/- Words on memory for the proofs of this seat: a slice that reads as a list (nil let in), a block that is known whole. No program is named here. -/
import Derived.WalkKit
import Derived.Laws.OwnMore
import Derived.Laws.BytesArg
import Derived.Laws.Rows
import Derived.Deep.AppendLies
import Derived.Deep.Draws
namespace Go.Proofs.YtifejanbgobngaaDoor
set_option linter.unusedVariables false
open Go.RowKit

/-- The slice '.slice A xs.length c' holds the cells xs, in a block below B. -/
def Rd (w : World) (B : Nat) (A : Option Addr) (xs : List Value) : Prop :=
  xs = [] ∨ ∃ b off, A = some ⟨b, off, none⟩ ∧ b < B ∧ ∀ k v, xs[k]? = some v → w.cell? ⟨b, off + k, none⟩ = some v

/-- Numbers as cells of an integer kind. -/
def ints (k : IntKind) (l : List Nat) : List Value := l.map fun (n : Nat) => Value.int k (n : Int)

theorem ints_length (k : IntKind) (l : List Nat) : (ints k l).length = l.length := by simp [ints]
theorem ints_get (k : IntKind) (l : List Nat) (i : Nat) (h : i < l.length) : (ints k l)[i]? = some (.int k ((l[i] : Nat) : Int)) := by
  simp [ints, h]

theorem ret_int {k : IntKind} {a b : Int} (h : a = b) : Ending.returned (.int k a) = .returned (.int k b) := by rw [h]
theorem ret_bool {a b : Bool} (h : a = b) : Ending.returned (.bool a) = .returned (.bool b) := by rw [h]
theorem int_max (a b : Nat) : max (a : Int) (b : Int) = ((max a b : Nat) : Int) := by omega
theorem int_min (a b : Nat) : min (a : Int) (b : Int) = ((min a b : Nat) : Int) := by omega
theorem nat_beq0 (a : Nat) : ((a : Int) == 0) = (a == 0) := by
  rw [Bool.eq_iff_iff]; simp

section
variable {w w' : World} {B B' : Nat} {A : Option Addr} {xs : List Value}
theorem Rd.nil_ : Rd w B A [] := .inl rfl
theorem Rd.at_ {k : Nat} (h : Rd w B A xs) (hk : k < xs.length) : ∃ b off, A = some ⟨b, off, none⟩ ∧ b < B ∧ w.cell? ⟨b, off + k, none⟩ = some xs[k] := by
  rcases h with rfl | ⟨b, off, hA, hb, hc⟩
  · simp at hk
  · exact ⟨b, off, hA, hb, hc k _ (List.getElem?_eq_getElem hk)⟩
theorem Rd.all (h : Rd w B A xs) (hn : xs ≠ []) : ∃ b off, A = some ⟨b, off, none⟩ ∧ ∀ k v, xs[k]? = some v → w.cell? ⟨b, off + k, none⟩ = some v := by
  rcases h with rfl | ⟨b, off, hA, hb, hc⟩
  · exact absurd rfl hn
  · exact ⟨b, off, hA, hc⟩
theorem Rd.keep (h : Rd w B A xs) (hk : ∀ p : Addr, p.block < B → w'.cell? p = w.cell? p) : Rd w' B A xs := by
  rcases h with rfl | ⟨b, off, hA, hb, hc⟩
  · exact .inl rfl
  · exact .inr ⟨b, off, hA, hb, fun k v hv => (hk _ hb).trans (hc k v hv)⟩
theorem Rd.more (h : Rd w B A xs) (hB : B ≤ B') : Rd w B' A xs := by
  rcases h with rfl | ⟨b, off, hA, hb, hc⟩
  · exact .inl rfl
  · exact .inr ⟨b, off, hA, by omega, hc⟩
theorem Rd.below (h : Rd w B A xs) (hb : Below B w w') : Rd w' B A xs := h.keep fun _ hp => hb.cell hp
theorem Rd.own {base : Nat} {e : TypeId} {c n : Nat} (h : w.ownsRow base e 1 (.slice A n c) n xs) : Rd w w.heap.size A xs := by
  rcases Nat.eq_zero_or_pos n with rfl | hn
  · left
    exact List.eq_nil_of_length_eq_zero (by simpa using h.1)
  · obtain ⟨g, cap, hv, _, hlt⟩ := h.form hn
    have hA : A = some ⟨g, 0, none⟩ := by injection hv
    subst hA
    refine .inr ⟨g, 0, rfl, hlt, fun k v hv => ?_⟩
    have := h.cells (g := g) rfl k v hv
    rw [Nat.zero_add]
    rcases Nat.eq_zero_or_pos k with rfl | hk
    · simpa [Addr.add] using this
    · simpa [Addr.add, Nat.pos_iff_ne_zero.1 hk] using this
end

/-- Block g is just the numbers l, of element type t; none of it is frozen. -/
def Row (w : World) (g : Nat) (t : TypeId) (k : IntKind) (l : List Nat) : Prop := w.heap[g]? = some (.cells (ints k l).toArray t (0, 0))

section
variable {w w' : World} {g : Nat} {t : TypeId} {k : IntKind} {l : List Nat}
theorem Row.lt (h : Row w g t k l) : g < w.heap.size := by
  rcases Nat.lt_or_ge g w.heap.size with hlt | hge
  · exact hlt
  · unfold Row at h; rw [Array.getElem?_eq_none hge] at h; cases h
theorem Row.cell (h : Row w g t k l) (i : Nat) (hi : i < l.length) : w.cell? ⟨g, i, none⟩ = some (.int k ((l[i] : Nat) : Int)) := by
  rw [cell_of_row w g i _ t (0, 0) h]
  simpa using ints_get k l i hi
theorem Row.frozen (h : Row w g t k l) (i : Nat) : w.frozen? ⟨g, i, none⟩ = false := by
  unfold Row at h
  simp [World.frozen?, h]
theorem Row.set_ (h : Row w g t k l) (i n : Nat) : Row (w.setCell ⟨g, i, none⟩ (.int k (n : Int))) g t k (l.set i n) := by
  unfold Row at h ⊢
  simp [World.setCell, Array.getElem?_modify, h, ints]
theorem Row.set' (h : Row w g t k l) (i n : Nat) (z : Int) (hz : z = (n : Int)) (l' : List Nat) (hl : l.set i n = l') : Row (w.setCell ⟨g, i, none⟩ (.int k z)) g t k l' := by
  subst hz hl; exact h.set_ i n
theorem Row.lit (w : World) (t : TypeId) (k : IntKind) (l : List Nat) : Row (w.alloc (.cells (ints k l).toArray t)) w.heap.size t k l := heap_alloc_new w _
theorem Row.drew (h : Row w g t k l) : Row w.drew g t k l := h
theorem Row.alloc (h : Row w g t k l) (o : Obj) : Row (w.alloc o) g t k l := (Below.heap_alloc w o g h.lt).trans h
theorem Row.far (h : Row w g t k l) {p : Addr} (hp : g ≠ p.block) (u : Value) : Row (w.setCell p u) g t k l := (Below.heap_setCell w p u g hp).trans h
theorem Row.below {B : Nat} (h : Row w g t k l) (hb : Below B w w') (hg : g < B) : Row w' g t k l := (hb.block g hg).trans h
theorem Row.grown {row : Option Nat} (h : Row w g t k l) (hb : w.grownBy w' row) (hg : some g ≠ row) : Row w' g t k l := (hb.block g h.lt hg).trans h
theorem Row.own {base : Nat} (h : Row w g t k l) (hb : base ≤ g) (hm : l.length ≤ maxLen) : w.ownsRow base t 1 (.slice (some ⟨g, 0, none⟩) l.length l.length) l.length (ints k l) := by
  refine ⟨by simp [ints], .inr ⟨g, l.length, (ints k l).toArray, rfl, hb, h, Nat.le_refl _, hm, by simp [ints], by simp [List.take_of_length_le, ints]⟩⟩
theorem Row.rd (h : Row w g t k l) : Rd w w.heap.size (some ⟨g, 0, none⟩) (ints k l) :=
  .inr ⟨g, 0, rfl, h.lt, fun i v hv => by
    have hi : i < l.length := by
      have := (List.getElem?_eq_some_iff.1 hv).1
      simpa [ints] using this
    rw [ints_get k l i hi] at hv
    rw [Nat.zero_add, h.cell i hi, hv]⟩
end

theorem only_drew {a w : World} {row : Option Nat} (h : a.grownBy w row) : a.grownBy w.drew row := ⟨h.os, h.tape, h.output, h.size, h.block⟩
theorem only_setCell {a w : World} {g : Nat} (h : a.grownBy w (some g)) {p : Addr} (hp : p.block = g ∨ a.heap.size ≤ p.block) (u : Value) : a.grownBy (w.setCell p u) (some g) :=
  ⟨h.os, h.tape, h.output, by simpa [World.setCell] using h.size, fun i hi hne => (Below.heap_setCell w p u i (by
    rintro rfl
    rcases hp with hp | hp
    · exact hne (by rw [hp])
    · omega)).trans (h.block i hi hne)⟩
theorem only_alloc {a w : World} {row : Option Nat} (h : a.grownBy w row) (o : Obj) : a.grownBy (w.alloc o) row :=
  ⟨h.os, h.tape, h.output, Nat.le_trans h.size (by simp), fun i hi hne => (Below.heap_alloc w o i (Nat.lt_of_lt_of_le hi h.size)).trans (h.block i hi hne)⟩
theorem only_trans {a b c : World} {row : Option Nat} (h : a.grownBy b row) (k : b.grownBy c row) : a.grownBy c row :=
  ⟨k.os.trans h.os, k.tape.trans h.tape, k.output.trans h.output, Nat.le_trans h.size k.size, fun i hi hne => (k.block i (Nat.lt_of_lt_of_le hi h.size) hne).trans (h.block i hi hne)⟩

end Go.Proofs.YtifejanbgobngaaDoor
