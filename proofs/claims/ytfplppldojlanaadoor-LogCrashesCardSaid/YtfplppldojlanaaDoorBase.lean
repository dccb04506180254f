
import Derived.WalkKit
import Derived.Laws.OwnMore
import Derived.Laws.BytesArg
import Derived.Laws.Rows
import Derived.Deep.AppendLies
import Derived.Deep.Draws
import Derived.Test.YtfplppldojlanaaDoorChecked
import Derived.Deep.OwnRows
import Derived.Lib.Hide
import Derived.Deep.Quiet
import Derived.Laws.AppendOwnNone
import Derived.Lib.Strings
import Derived.Outline
import Derived.WalkLawsBesides
import Derived.WalkSpells
import Derived.PlainAid
import Derived.Deep.QuietTactic
import Derived.BigQuiet
import Derived.RegionTactic
import Derived.BigRegion
import Derived.Handy
import Derived.Laws.BitsAllLaws
import Derived.Deep.RegionWith
import Derived.Lib.AppendStr
import Derived.Deep.RegionLaw
import Derived.Maps.AppendAt
import Derived.OpenShut
import Derived.WideShapes
import Derived.ChangeArms
import Derived.Deep.Slices
import Derived.Sort.Grow
/- Words on memory for the proofs of this seat: a slice that reads as a list (nil let in), a block that is known whole. No program is named here. -/

namespace Go.Proofs.YtfplppldojlanaaDoor
set_option linter.unusedVariables false
open Go.RowKit

/-- The slice '.slice A xs.length c' holds the cells xs, in a block below B. -/
def Rd (w : World) (B : Nat) (A : Option Addr) (xs : List Value) : Prop :=
  xs = [] ∨ ∃ b off, A = some ⟨b, off, none⟩ ∧ b < B ∧ ∀ k v, xs[k]? = some v → w.cell? ⟨b, off + k, none⟩ = some v

/-- Numbers as cells of an integer kind. -/
def ints (k : IntKind) (l : List Nat) : List Value := l.map fun (n : Nat) => Value.int k (n : Int)

theorem ints_length (k : IntKind) (l : List Nat) : (ints k l).length = l.length := by simp [ints]
theorem ints_get (k : IntKind) (l : List Nat) (i : Nat) (h : i < l.length) : (ints k l)[i]? = some (.int k ((l[i] : Nat) : Int)) := by
  simp [ints, h]

theorem ret_int {k : IntKind} {a b : Int} (h : a = b) : Ending.returned (.int k a) = .returned (.int k b) := by rw [h]
theorem ret_bool {a b : Bool} (h : a = b) : Ending.returned (.bool a) = .returned (.bool b) := by rw [h]
theorem int_max (a b : Nat) : max (a : Int) (b : Int) = ((max a b : Nat) : Int) := by omega
theorem int_min (a b : Nat) : min (a : Int) (b : Int) = ((min a b : Nat) : Int) := by omega
theorem nat_beq0 (a : Nat) : ((a : Int) == 0) = (a == 0) := by
  rw [Bool.eq_iff_iff]; simp

section
variable {w w' : World} {B B' : Nat} {A : Option Addr} {xs : List Value}
theorem Rd.nil_ : Rd w B A [] := .inl rfl
theorem Rd.at_ {k : Nat} (h : Rd w B A xs) (hk : k < xs.length) : ∃ b off, A = some ⟨b, off, none⟩ ∧ b < B ∧ w.cell? ⟨b, off + k, none⟩ = some xs[k] := by
  rcases h with rfl | ⟨b, off, hA, hb, hc⟩
  · simp at hk
  · exact ⟨b, off, hA, hb, hc k _ (List.getElem?_eq_getElem hk)⟩
theorem Rd.all (h : Rd w B A xs) (hn : xs ≠ []) : ∃ b off, A = some ⟨b, off, none⟩ ∧ ∀ k v, xs[k]? = some v → w.cell? ⟨b, off + k, none⟩ = some v := by
  rcases h with rfl | ⟨b, off, hA, hb, hc⟩
  · exact absurd rfl hn
  · exact ⟨b, off, hA, hc⟩
theorem Rd.keep (h : Rd w B A xs) (hk : ∀ p : Addr, p.block < B → w'.cell? p = w.cell? p) : Rd w' B A xs := by
  rcases h with rfl | ⟨b, off, hA, hb, hc⟩
  · exact .inl rfl
  · exact .inr ⟨b, off, hA, hb, fun k v hv => (hk _ hb).trans (hc k v hv)⟩
theorem Rd.more (h : Rd w B A xs) (hB : B ≤ B') : Rd w B' A xs := by
  rcases h with rfl | ⟨b, off, hA, hb, hc⟩
  · exact .inl rfl
  · exact .inr ⟨b, off, hA, by omega, hc⟩
theorem Rd.below (h : Rd w B A xs) (hb : Below B w w') : Rd w' B A xs := h.keep fun _ hp => hb.cell hp
theorem Rd.own {base : Nat} {e : TypeId} {c n : Nat} (h : w.ownsRow base e 1 (.slice A n c) n xs) : Rd w w.heap.size A xs := by
  rcases Nat.eq_zero_or_pos n with rfl | hn
  · left
    exact List.eq_nil_of_length_eq_zero (by simpa using h.1)
  · obtain ⟨g, cap, hv, _, hlt⟩ := h.form hn
    have hA : A = some ⟨g, 0, none⟩ := by injection hv
    subst hA
    refine .inr ⟨g, 0, rfl, hlt, fun k v hv => ?_⟩
    have := h.cells (g := g) rfl k v hv
    rw [Nat.zero_add]
    rcases Nat.eq_zero_or_pos k with rfl | hk
    · simpa [Addr.add] using this
    · simpa [Addr.add, Nat.pos_iff_ne_zero.1 hk] using this
end

/-- Block g is just the numbers l, of element type t; none of it is frozen. -/
def Row (w : World) (g : Nat) (t : TypeId) (k : IntKind) (l : List Nat) : Prop := w.heap[g]? = some (.cells (ints k l).toArray t (0, 0))

section
variable {w w' : World} {g : Nat} {t : TypeId} {k : IntKind} {l : List Nat}
theorem Row.lt (h : Row w g t k l) : g < w.heap.size := by
  rcases Nat.lt_or_ge g w.heap.size with hlt | hge
  · exact hlt
  · unfold Row at h; rw [Array.getElem?_eq_none hge] at h; cases h
theorem Row.cell (h : Row w g t k l) (i : Nat) (hi : i < l.length) : w.cell? ⟨g, i, none⟩ = some (.int k ((l[i] : Nat) : Int)) := by
  rw [cell_of_row w g i _ t (0, 0) h]
  simpa using ints_get k l i hi
theorem Row.frozen (h : Row w g t k l) (i : Nat) : w.frozen? ⟨g, i, none⟩ = false := by
  unfold Row at h
  simp [World.frozen?, h]
theorem Row.set_ (h : Row w g t k l) (i n : Nat) : Row (w.setCell ⟨g, i, none⟩ (.int k (n : Int))) g t k (l.set i n) := by
  unfold Row at h ⊢
  simp [World.setCell, Array.getElem?_modify, h, ints]
theorem Row.set' (h : Row w g t k l) (i n : Nat) (z : Int) (hz : z = (n : Int)) (l' : List Nat) (hl : l.set i n = l') : Row (w.setCell ⟨g, i, none⟩ (.int k z)) g t k l' := by
  subst hz hl; exact h.set_ i n
theorem Row.lit (w : World) (t : TypeId) (k : IntKind) (l : List Nat) : Row (w.alloc (.cells (ints k l).toArray t)) w.heap.size t k l := heap_alloc_new w _
theorem Row.drew (h : Row w g t k l) : Row w.drew g t k l := h
theorem Row.alloc (h : Row w g t k l) (o : Obj) : Row (w.alloc o) g t k l := (Below.heap_alloc w o g h.lt).trans h
theorem Row.far (h : Row w g t k l) {p : Addr} (hp : g ≠ p.block) (u : Value) : Row (w.setCell p u) g t k l := (Below.heap_setCell w p u g hp).trans h
theorem Row.below {B : Nat} (h : Row w g t k l) (hb : Below B w w') (hg : g < B) : Row w' g t k l := (hb.block g hg).trans h
theorem Row.grown {row : Option Nat} (h : Row w g t k l) (hb : w.grownBy w' row) (hg : some g ≠ row) : Row w' g t k l := (hb.block g h.lt hg).trans h
theorem Row.own {base : Nat} (h : Row w g t k l) (hb : base ≤ g) (hm : l.length ≤ maxLen) : w.ownsRow base t 1 (.slice (some ⟨g, 0, none⟩) l.length l.length) l.length (ints k l) := by
  refine ⟨by simp [ints], .inr ⟨g, l.length, (ints k l).toArray, rfl, hb, h, Nat.le_refl _, hm, by simp [ints], by simp [List.take_of_length_le, ints]⟩⟩
theorem Row.rd (h : Row w g t k l) : Rd w w.heap.size (some ⟨g, 0, none⟩) (ints k l) :=
  .inr ⟨g, 0, rfl, h.lt, fun i v hv => by
    have hi : i < l.length := by
      have := (List.getElem?_eq_some_iff.1 hv).1
      simpa [ints] using this
    rw [ints_get k l i hi] at hv
    rw [Nat.zero_add, h.cell i hi, hv]⟩
end

theorem only_drew {a w : World} {row : Option Nat} (h : a.grownBy w row) : a.grownBy w.drew row := ⟨h.os, h.tape, h.output, h.size, h.block⟩
theorem only_setCell {a w : World} {g : Nat} (h : a.grownBy w (some g)) {p : Addr} (hp : p.block = g ∨ a.heap.size ≤ p.block) (u : Value) : a.grownBy (w.setCell p u) (some g) :=
  ⟨h.os, h.tape, h.output, by simpa [World.setCell] using h.size, fun i hi hne => (Below.heap_setCell w p u i (by
    rintro rfl
    rcases hp with hp | hp
    · exact hne (by rw [hp])
    · omega)).trans (h.block i hi hne)⟩
theorem only_alloc {a w : World} {row : Option Nat} (h : a.grownBy w row) (o : Obj) : a.grownBy (w.alloc o) row :=
  ⟨h.os, h.tape, h.output, Nat.le_trans h.size (by simp), fun i hi hne => (Below.heap_alloc w o i (Nat.lt_of_lt_of_le hi h.size)).trans (h.block i hi hne)⟩
theorem only_trans {a b c : World} {row : Option Nat} (h : a.grownBy b row) (k : b.grownBy c row) : a.grownBy c row :=
  ⟨k.os.trans h.os, k.tape.trans h.tape, k.output.trans h.output, Nat.le_trans h.size k.size, fun i hi hne => (k.block i (Nat.lt_of_lt_of_le hi h.size) hne).trans (h.block i hi hne)⟩

end Go.Proofs.YtfplppldojlanaaDoor

/- Rows of the table of types; a new row of noughts. -/

namespace Go.Proofs.YtfplppldojlanaaDoor
open Go.RowKit
set_option linter.unusedVariables false

theorem info_u8 : (Tryd.prog.info? 5).map (fun i => (i.zero, i.size, i.bytes)) = some (some (.int .u8 0), 1, 1) := by kernel_rfl

/-- A new row of noughts. -/
theorem Row.made (w : World) (t : TypeId) (k : IntKind) (n : Nat) : Row (w.alloc (.cells (madeCells #[.int k 0] n) t)) w.heap.size t k (List.replicate n 0) := by
  unfold Row
  rw [heap_alloc_new]
  congr 2
  apply Array.ext'
  rw [toList_madeCells_one]
  simp [ints]

end Go.Proofs.YtfplppldojlanaaDoor

/- Words on memory, more: a literal of numbers; a slice of numbers that came in. -/

namespace Go.Proofs.YtfplppldojlanaaDoor
open Go.RowKit
set_option linter.unusedVariables false

theorem rd_lit (w : World) (t : TypeId) (k : IntKind) (l : List Nat) (B : Nat) (hB : B = w.heap.size + 1) : Rd (w.alloc (.cells (ints k l).toArray t)) B (some ⟨w.heap.size, 0, none⟩) (ints k l) := by
  subst hB
  have h := (Row.lit w t k l).rd
  rwa [show (w.alloc (.cells (ints k l).toArray t)).heap.size = w.heap.size + 1 by simp] at h

theorem add_plain (b off i : Nat) : (⟨b, off, none⟩ : Addr).add i = ⟨b, off + i, none⟩ := by
  rcases Nat.eq_zero_or_pos i with rfl | h
  · simp [Addr.add]
  · have : i ≠ 0 := by omega
    simp [Addr.add, this]
/-- A slice of integers that came in, as the proof's frame tells it: as a list of numbers. -/
theorem of_row {k : IntKind} {hi : Nat} {w : World} {a : Option Addr} {len cap : Nat} {zs : List Int} (hk : ∀ n : Int, (Lit.int k n).wf = true → 0 ≤ n ∧ n < hi)
    (h : (a = none ∧ len = 0 ∧ cap = 0 ∧ zs = []) ∨
      ∃ x, a = some x ∧ len ≤ cap ∧ cap ≤ maxLen ∧ zs.length = cap ∧ (∀ i, i < zs.length → w.cell? (x.add i) = some (.int k (zs.getD i 0))) ∧ ∀ n ∈ zs, (Lit.int k n).wf = true) :
    ∃ l : List Nat, l.length = len ∧ (∀ x ∈ l, x < hi) ∧ Rd w w.heap.size a (ints k l) ∧ len ≤ cap ∧ cap ≤ maxLen := by
  rcases h with ⟨rfl, rfl, rfl, rfl⟩ | ⟨x, rfl, hl, hm, hz, hc, hw⟩
  · exact ⟨[], rfl, by simp, .inl rfl, Nat.le_refl _, by unfold maxLen; omega⟩
  · have hcast : ∀ i (hi' : i < len), zs.getD i 0 = ((zs.getD i 0).toNat : Int) := fun i hi' => by
      have : zs.getD i 0 ∈ zs := by
        rw [List.getD_eq_getElem?_getD, List.getElem?_eq_getElem (by omega), Option.getD_some]
        exact List.getElem_mem _
      have := hk _ (hw _ this)
      omega
    refine ⟨(zs.take len).map Int.toNat, by simp; omega, fun y hy => ?_, ?_, hl, hm⟩
    · obtain ⟨z, hz', rfl⟩ := List.mem_map.1 hy
      have := hk z (hw z (List.mem_of_mem_take hz'))
      omega
    · rcases Nat.eq_zero_or_pos len with rfl | hp
      · left; simp [ints]
      · obtain ⟨b, off, spot⟩ := x
        have h0 := hc 0 (by omega)
        have hspot : spot = none := by simpa [Addr.add] using World.cell?_spot h0
        subst hspot
        have hadd : ∀ i, (⟨b, off, none⟩ : Addr).add i = ⟨b, off + i, none⟩ := add_plain b off
        have hb := block_lt_of_cell h0
        rw [hadd] at hb
        refine .inr ⟨b, off, rfl, hb, fun i v hv => ?_⟩
        have hi' : i < len := by
          have := (List.getElem?_eq_some_iff.1 hv).1
          rw [ints_length, List.length_map, List.length_take] at this
          omega
        have h1 := hc i (by omega)
        rw [hadd] at h1
        rw [h1, hcast i hi']
        rw [ints_get k ((zs.take len).map Int.toNat) i (by rw [List.length_map, List.length_take]; omega)] at hv
        rw [← hv]
        simp [List.getD_eq_getElem?_getD, List.getElem?_eq_getElem (show i < zs.length by omega)]
theorem of_row_nil {k : IntKind} {w : World} {a : Option Addr} {len cap : Nat} {zs : List Int}
    (h : (a = none ∧ len = 0 ∧ cap = 0 ∧ zs = []) ∨
      ∃ x, a = some x ∧ len ≤ cap ∧ cap ≤ maxLen ∧ zs.length = cap ∧ (∀ i, i < zs.length → w.cell? (x.add i) = some (.int k (zs.getD i 0))) ∧ ∀ n ∈ zs, (Lit.int k n).wf = true) : a = none → cap = 0 := by
  rcases h with ⟨rfl, _, h, _⟩ | ⟨x, rfl, _⟩
  · exact fun _ => h
  · intro h; cases h
theorem wf_u64 (n : Int) (h : (Lit.int .u64 n).wf = true) : 0 ≤ n ∧ n < (18446744073709551616 : Nat) := by
  simp [Lit.wf, IntKind.min, IntKind.max, IntKind.signed, IntKind.bits] at h
  omega
theorem wf_u8 (n : Int) (h : (Lit.int .u8 n).wf = true) : 0 ≤ n ∧ n < (256 : Nat) := by
  simp [Lit.wf, IntKind.min, IntKind.max, IntKind.signed, IntKind.bits] at h
  omega
theorem wf_i64 (n : Int) (h : (Lit.int .i64 n).wf = true) : -9223372036854775808 ≤ n ∧ n ≤ 9223372036854775807 := by
  simp [Lit.wf, IntKind.min, IntKind.max, IntKind.signed, IntKind.bits] at h
  omega
end Go.Proofs.YtfplppldojlanaaDoor

/- 'Later w w'': of w nothing has turned in w'; facts that are handed on. -/

namespace Go.Proofs.YtfplppldojlanaaDoor
open Go.RowKit
set_option linter.unusedVariables false

/-- w' is w with more: each block of w is as it was. -/
def Later (w w' : World) : Prop := Below w.heap.size w w'
section
variable {w w' w'' : World} {A : Option Addr} {xs : List Value}
theorem Later.below (h : Later w w') : Below w.heap.size w w' := h
theorem Later.of (h : Below w.heap.size w w') : Later w w' := h
theorem Later.refl (w : World) : Later w w := Below.refl _ _
theorem Later.size (h : Later w w') : w.heap.size ≤ w'.heap.size := Below.size h
theorem Later.trans (h : Later w w') (k : Later w' w'') : Later w w'' := Below.trans h (Below.mono k (Below.size h))
theorem Later.drew (h : Later w w') : Later w w'.drew := Below.drew h
theorem Later.drewN (h : Later w w') (n : Nat) : Later w (w'.drewN n) := Below.trans h ⟨rfl, rfl, rfl, Nat.le_refl _, fun _ _ => rfl⟩
theorem Later.alloc (h : Later w w') (o : Obj) : Later w (w'.alloc o) := Below.alloc h (Below.size h) o
theorem Later.new (w : World) (o : Obj) : Later w (w.alloc o) := (Later.refl w).alloc o
theorem Later.set_ (h : Later w w') {p : Addr} (hp : w.heap.size ≤ p.block) (u : Value) : Later w (w'.setCell p u) := Below.setCell h hp u
theorem Later.cell (h : Later w w') {p : Addr} {v : Value} (hc : w.cell? p = some v) : w'.cell? p = some v := (Below.cell h (block_lt_of_cell hc)).trans hc
theorem Later.row (h : Later w w') {g : Nat} {t : TypeId} {k : IntKind} {l : List Nat} (hr : Row w g t k l) : Row w' g t k l := hr.below h hr.lt

/-- The slice holds xs, in a block of w. -/
def Has (w : World) (A : Option Addr) (xs : List Value) : Prop := Rd w w.heap.size A xs
theorem Has.rd (h : Has w A xs) : Rd w w.heap.size A xs := h
theorem Has.of {B : Nat} (h : Rd w B A xs) (hB : B ≤ w.heap.size) : Has w A xs := Rd.more h hB
theorem Has.later (h : Has w A xs) (l : Later w w') : Has w' A xs := Rd.more (Rd.below h l) l.size
theorem Has.take (h : Has w A xs) (j : Nat) : Has w A (xs.take j) := by
  rcases h with rfl | ⟨b, off, hA, hb, hc⟩
  · left; simp
  · refine .inr ⟨b, off, hA, hb, fun i v hv => ?_⟩
    rw [List.getElem?_take] at hv
    split at hv
    · exact hc i v hv
    · cases hv
theorem Has.nil_ : Has w A [] := .inl rfl
theorem Has.lit (w : World) (t : TypeId) (k : IntKind) (l : List Nat) : Has (w.alloc (.cells (ints k l).toArray t)) (some ⟨w.heap.size, 0, none⟩) (ints k l) := Has.of (rd_lit w t k l _ rfl) (by simp)
theorem Has.row {g : Nat} {t : TypeId} {k : IntKind} {l : List Nat} (h : Row w g t k l) : Has w (some ⟨g, 0, none⟩) (ints k l) := h.rd
theorem Has.own {base : Nat} {e : TypeId} {c n : Nat} (h : w.ownsRow base e 1 (.slice A n c) n xs) : Has w A xs := Rd.own h
theorem Has.drop {b off : Nat} (h : Has w (some ⟨b, off, none⟩) xs) (j : Nat) : Has w (some ⟨b, off + j, none⟩) (xs.drop j) := by
  rcases h with rfl | ⟨b', off', hA, hb, hc⟩
  · left; simp
  · injection hA with hA
    injection hA with h1 h2
    subst h1 h2
    refine .inr ⟨b, off + j, rfl, hb, fun i v hv => ?_⟩
    rw [List.getElem?_drop] at hv
    have := hc (j + i) v hv
    rwa [show off + j + i = off + (j + i) by omega]
/-- Block g is just these cells. -/
def Blk (w : World) (g : Nat) (cs : Array Value) (t : TypeId) : Prop := w.heap[g]? = some (.cells cs t (0, 0))
theorem Blk.lt {g : Nat} {cs : Array Value} {t : TypeId} (h : Blk w g cs t) : g < w.heap.size := by
  rcases Nat.lt_or_ge g w.heap.size with hlt | hge
  · exact hlt
  · unfold Blk at h; rw [Array.getElem?_eq_none hge] at h; cases h
theorem Blk.later {g : Nat} {cs : Array Value} {t : TypeId} (h : Blk w g cs t) (l : Later w w') : Blk w' g cs t := (Below.block l g h.lt).trans h
theorem Blk.cell {g : Nat} {cs : Array Value} {t : TypeId} (h : Blk w g cs t) (k : Nat) (v : Value) (hk : cs[k]? = some v) : w.cell? ⟨g, k, none⟩ = some v := by
  rw [cell_of_row w g k cs t (0, 0) h]; exact hk
theorem Blk.frozen {g : Nat} {cs : Array Value} {t : TypeId} (h : Blk w g cs t) (k : Nat) : w.frozen? ⟨g, k, none⟩ = false := by
  unfold Blk at h; simp [World.frozen?, h]
theorem Blk.new (w : World) (cs : Array Value) (t : TypeId) (n : Nat) (hn : n = w.heap.size) : Blk (w.alloc (.cells cs t)) n cs t := by
  subst hn; exact heap_alloc_new w _
theorem Blk.drew {g : Nat} {cs : Array Value} {t : TypeId} (h : Blk w g cs t) : Blk w.drew g cs t := h
theorem Blk.set_ {g : Nat} {cs : Array Value} {t : TypeId} (h : Blk w g cs t) (k : Nat) (v : Value) : Blk (w.setCell ⟨g, k, none⟩ v) g (cs.setIfInBounds k v) t := by
  unfold Blk at h ⊢
  simp [World.setCell, Array.getElem?_modify, h]
theorem Blk.far {g : Nat} {cs : Array Value} {t : TypeId} (h : Blk w g cs t) {p : Addr} (hp : g ≠ p.block) (v : Value) : Blk (w.setCell p v) g cs t := (Below.heap_setCell w p v g hp).trans h
/-- The cell at a place, as a fact that the walk doesn't take for a rule. -/
def CellIs (w : World) (p : Addr) (v : Value) : Prop := w.cell? p = some v
theorem CellIs.later {p : Addr} {v : Value} (h : CellIs w p v) (l : Later w w') : CellIs w' p v := l.cell h
theorem CellIs.out {p : Addr} {v : Value} (h : CellIs w p v) : w.cell? p = some v := h
theorem CellIs.drew {p : Addr} {v : Value} (h : CellIs w p v) : CellIs w.drew p v := h
theorem CellIs.far {p q : Addr} {v u : Value} (h : CellIs w p v) (hne : p.block ≠ q.block) : CellIs (w.setCell q u) p v := (World.cell?_of_block (w := w) (Below.heap_setCell w q u p.block hne)).trans h
theorem CellIs.new (w : World) (cs : Array Value) (t : TypeId) (n k : Nat) (v : Value) (hn : n = w.heap.size) (h : cs[k]? = some v) : CellIs (w.alloc (.cells cs t)) ⟨n, k, none⟩ v := by
  unfold CellIs; subst hn; rw [World.cell?_alloc_at _ _ _ _ rfl]; simp [h]
end
end Go.Proofs.YtfplppldojlanaaDoor

/- append onto a row of the call's own, the source whatever reads as a list; the new value's shape is told. -/

namespace Go.Proofs.YtfplppldojlanaaDoor
open Go.RowKit
set_option linter.unusedVariables false

theorem own_shape {w : World} {base : Nat} {e : TypeId} {v : Value} {n : Nat} {xs : List Value} (h : w.ownsRow base e 1 v n xs) : ∃ A c, v = .slice A n c ∧ (A = none → c = 0) := by
  rcases h.2 with ⟨rfl, rfl⟩ | ⟨g, cap, cur, rfl, _⟩
  · exact ⟨none, 0, rfl, fun _ => rfl⟩
  · exact ⟨some ⟨g, 0, none⟩, cap, rfl, fun h => by cases h⟩
theorem own_cap {w : World} {base : Nat} {e : TypeId} {A : Option Addr} {c : Nat} {n : Nat} {xs : List Value} (h : w.ownsRow base e 1 (.slice A n c) n xs) : n ≤ c := by
  rcases h.2 with ⟨h1, rfl⟩ | ⟨g, cap, cur, h1, _, _, h2, _⟩
  · omega
  · injection h1 with _ _ h1
    omega
theorem Rd.take {w : World} {B : Nat} {A : Option Addr} {xs : List Value} (h : Rd w B A xs) (j : Nat) : Rd w B A (xs.take j) := by
  rcases h with rfl | ⟨b, off, hA, hb, hc⟩
  · left; simp
  · refine .inr ⟨b, off, hA, hb, fun i v hv => ?_⟩
    rw [List.getElem?_take] at hv
    split at hv
    · exact hc i v hv
    · cases hv
theorem ints_take (k : IntKind) (l : List Nat) (j : Nat) : (ints k l).take j = ints k (l.take j) := by simp [ints, List.map_take]
theorem ints_snoc (k : IntKind) (l r : List Nat) : ints k (l ++ r) = ints k l ++ ints k r := by simp [ints]
theorem ints_one (k : IntKind) (l : List Nat) : ∀ u ∈ ints k l, u.oneCell' = true := by
  intro u hu
  obtain ⟨n, _, rfl⟩ := List.mem_map.1 hu
  rfl

theorem wpList_append_rd {P : Program} (w : World) {ops : Array Oper} {rest : List Oper} {o : Oper} {a : Act} {Q : Exit → Act → World → Prop} (hgd : o.guard = none) (s x : Operand) (t : TypeId)
    (ho : o.op = .call { callee := .builtin .append, args := #[s, x], argTypes := #[t, t] })
    (base : Nat) (e : TypeId) (z : Value) (bytes : Nat) (ht : P.underlying t = some (.slice e)) (hinfo : (P.info? e).map (fun i => (i.zero, i.size, i.bytes)) = some (some z, 1, bytes)) (hzs : z.cells.size = 1)
    (v : Value) (n : Nat) (xs : List Value) (hs : a.eval s = v) (hown : w.ownsRow base e 1 v n xs)
    (B : Nat) (A : Option Addr) (m c : Nat) (news : List Value) (hx : a.eval x = .slice A m c) (hr : Rd w B A news) (hm : m = news.length) (hnil : A = none → c = 0) (h1 : ∀ u ∈ news, u.oneCell' = true)
    (h63 : n + m ≤ maxLen) (hbytes : (n + m) * bytes ≤ 140737488355328) (hbase : base ≤ w.heap.size)
    (h : ∀ A' c' w', w'.ownsRow base e 1 (.slice A' (n + m) c') (n + m) (xs ++ news) → w.grownBy w' v.ownBlock → Below base w w' → (A' = none → c' = 0) → wpList P ops Q rest (a.put o.dst (.slice A' (n + m) c')) w') : wpList P ops Q (o :: rest) a w := by
  obtain ⟨i, hi, hz, hsz, hby⟩ := info_parts hinfo
  rcases A with _ | ad
  · have hn : news = [] := by
      rcases hr with h | ⟨b, off, h, _⟩
      · exact h
      · cases h
    subst hn
    have hm0 : m = 0 := by simpa using hm
    subst hm0
    have hc0 := hnil rfl
    subst hc0
    obtain ⟨A', c', hv, hc'⟩ := own_shape hown
    subst hv
    exact wpList_append_own_none hgd s x t ho base e i 1 ht hi _ n xs hs hown hx (h A' c' w (by simpa using hown) (World.grownBy.refl _ _) (Below.refl _ _) hc')
  · have hcells : ∀ j u, news[j]? = some u → w.cell? (ad.add j) = some u := by
      intro j u hu
      rcases hr with h | ⟨b, off, h, _, hc⟩
      · subst h; simp at hu
      · injection h with h
        subst h
        rw [add_plain]
        exact hc j u hu
    refine wpList_append_own w hgd s x t ho base e i z 1 bytes ht hi hz hsz hby hzs (by omega) v n xs hs hown ad m c news hx (by omega) hcells h1 h63 hbytes hbase fun v' w' h2 h3 _ => ?_
    obtain ⟨A', c', hv, hc'⟩ := own_shape h2
    subst hv
    exact h A' c' w' h2 h3 ((Below.refl _ _).grown h3 hbase fun k hk => (hown.lt k hk).1) hc'
end Go.Proofs.YtfplppldojlanaaDoor

/- append onto a row of the call's own, of elements of so many cells each: the source whatever reads as a list. -/

namespace Go.Proofs.YtfplppldojlanaaDoor
open Go.RowKit
set_option linter.unusedVariables false

section
variable {w : World} {base : Nat} {e : TypeId} {size : Nat} {xs : List Value}
theorem ownG_shape {v : Value} {n : Nat} (h : w.ownsRow base e size v n xs) : ∃ A c, v = .slice A n c ∧ (A = none → c = 0) := by
  rcases h.2 with ⟨rfl, rfl⟩ | ⟨g, cap, cur, rfl, _⟩
  · exact ⟨none, 0, rfl, fun _ => rfl⟩
  · exact ⟨some ⟨g, 0, none⟩, cap, rfl, fun h => by cases h⟩
theorem ownG_cap {A : Option Addr} {c n : Nat} (h : w.ownsRow base e size (.slice A n c) n xs) : n ≤ c := by
  rcases h.2 with ⟨h1, rfl⟩ | ⟨g, cap, cur, h1, _, _, h2, _⟩
  · omega
  · injection h1 with _ _ h1
    omega
theorem ownG_capmax {A : Option Addr} {c n : Nat} (h : w.ownsRow base e size (.slice A n c) n xs) : c ≤ 9223372036854775807 := by
  rcases h.2 with ⟨h1, rfl⟩ | ⟨g, cap, cur, h1, _, _, _, h2, _⟩
  · injection h1 with _ _ h1; omega
  · injection h1 with _ _ h1
    unfold maxLen at h2
    omega
/-- What a row of the call's own holds. -/
theorem Has.ownG {A : Option Addr} {c n : Nat} (h : w.ownsRow base e size (.slice A n c) n xs) : Has w A xs := by
  rcases Nat.eq_zero_or_pos xs.length with h0 | hp
  · exact .inl (List.eq_nil_of_length_eq_zero h0)
  · obtain ⟨hl, h2⟩ := h
    rcases h2 with ⟨h1, rfl⟩ | ⟨g, cap, cur, h1, hb, hg, _, _, hcs, ht⟩
    · rw [Nat.zero_mul] at hl; omega
    · injection h1 with hA
      refine .inr ⟨g, 0, hA, ?_, fun k v hv => ?_⟩
      · rcases Nat.lt_or_ge g w.heap.size with h' | h'
        · exact h'
        · rw [Array.getElem?_eq_none h'] at hg; cases hg
      · rw [Nat.zero_add, cell_of_row w g k cur e (0, 0) hg]
        rw [← ht, List.getElem?_take] at hv
        split at hv
        · simpa using hv
        · cases hv
theorem ownG_nil (w : World) (base : Nat) (e : TypeId) (size : Nat) : w.ownsRow base e size (.slice none 0 0) 0 [] := ⟨by simp, .inl ⟨rfl, rfl⟩⟩
/-- A block known whole, as a row of the call's own. -/
theorem Blk.ownG {g n : Nat} {cs : List Value} (h : Blk w g cs.toArray e) (hb : base ≤ g) (hl : cs.length = n * size) (hm : n ≤ maxLen) : w.ownsRow base e size (.slice (some ⟨g, 0, none⟩) n n) n cs :=
  ⟨hl, .inr ⟨g, n, cs.toArray, rfl, hb, h, Nat.le_refl _, hm, by simpa using hl, by simp [← hl]⟩⟩
end

theorem wpList_append_g {P : Program} (w : World) {ops : Array Oper} {rest : List Oper} {o : Oper} {a : Act} {Q : Exit → Act → World → Prop} (hgd : o.guard = none) (s x : Operand) (t : TypeId)
    (ho : o.op = .call { callee := .builtin .append, args := #[s, x], argTypes := #[t, t] })
    (base : Nat) (e : TypeId) (z : Value) (size bytes : Nat) (ht : P.underlying t = some (.slice e)) (hinfo : (P.info? e).map (fun i => (i.zero, i.size, i.bytes)) = some (some z, size, bytes)) (hzs : z.cells.size = size) (hsz0 : 0 < size)
    (v : Value) (n : Nat) (xs : List Value) (hs : a.eval s = v) (hown : w.ownsRow base e size v n xs)
    (A : Option Addr) (m c : Nat) (news : List Value) (hx : a.eval x = .slice A m c) (hr : Has w A news) (hm : news.length = m * size) (hnil : A = none → c = 0) (h1 : ∀ u ∈ news, u.oneCell' = true)
    (h63 : n + m ≤ maxLen) (hbytes : (n + m) * bytes ≤ 140737488355328) (hbase : base ≤ w.heap.size)
    (h : ∀ A' c' w', w'.ownsRow base e size (.slice A' (n + m) c') (n + m) (xs ++ news) → w.grownBy w' v.ownBlock → Below base w w' → (A' = none → c' = 0) → wpList P ops Q rest (a.put o.dst (.slice A' (n + m) c')) w') : wpList P ops Q (o :: rest) a w := by
  obtain ⟨i, hi, hz, hsz, hby⟩ := info_parts hinfo
  rcases A with _ | ad
  · have hn : news = [] := by
      rcases hr with h | ⟨b, off, h, _⟩
      · exact h
      · cases h
    subst hn
    have hm0 : m = 0 := by
      rcases Nat.eq_zero_or_pos m with h | h
      · exact h
      · have := Nat.mul_pos h hsz0
        rw [← hm] at this
        simp at this
    subst hm0
    have hc0 := hnil rfl
    subst hc0
    obtain ⟨A', c', hv, hc'⟩ := ownG_shape hown
    subst hv
    exact wpList_append_own_none hgd s x t ho base e i size ht hi _ n xs hs hown hx (h A' c' w (by simpa using hown) (World.grownBy.refl _ _) (Below.refl _ _) hc')
  · have hcells : ∀ j u, news[j]? = some u → w.cell? (ad.add j) = some u := by
      intro j u hu
      rcases hr with h | ⟨b, off, h, _, hc⟩
      · subst h; simp at hu
      · injection h with h
        subst h
        rw [add_plain]
        exact hc j u hu
    refine wpList_append_own w hgd s x t ho base e i z size bytes ht hi hz hsz hby hzs hsz0 v n xs hs hown ad m c news hx hm hcells h1 h63 hbytes hbase fun v' w' h2 h3 _ => ?_
    obtain ⟨A', c', hv, hc'⟩ := ownG_shape h2
    subst hv
    exact h A' c' w' h2 h3 ((Below.refl _ _).grown h3 hbase fun k hk => (hown.lt k hk).1) hc'
end Go.Proofs.YtfplppldojlanaaDoor

/- Bytes as a string. -/

namespace Go.Proofs.YtfplppldojlanaaDoor
open Go.RowKit
set_option linter.unusedVariables false

/-- The string of these bytes. -/
def bstr (l : List Nat) : ByteArray := strOfNums (l.map fun (n : Nat) => (n : Int))
theorem bstr_toList (l : List Nat) : (bstr l).data.toList = l.map UInt8.ofNat := by
  unfold bstr
  rw [strOfNums_data, List.map_map]
  rfl
theorem bstr_inj {a b : List Nat} (ha : ∀ x ∈ a, x < 256) (hb : ∀ x ∈ b, x < 256) (h : bstr a = bstr b) : a = b := by
  have h1 : a.map UInt8.ofNat = b.map UInt8.ofNat := by rw [← bstr_toList, ← bstr_toList, h]
  have h2 : (a.map UInt8.ofNat).map UInt8.toNat = (b.map UInt8.ofNat).map UInt8.toNat := by rw [h1]
  rw [List.map_map, List.map_map] at h2
  have e : ∀ l : List Nat, (∀ x ∈ l, x < 256) → l.map (UInt8.toNat ∘ UInt8.ofNat) = l := by
    intro l hl
    conv => rhs; rw [← List.map_id l]
    refine List.map_congr_left fun x hx => ?_
    simp [Nat.mod_eq_of_lt (hl x hx)]
  rwa [e a ha, e b hb] at h2

theorem bstr_ne {a b : List Nat} (ha : ∀ x ∈ a, x < 256) (hb : ∀ x ∈ b, x < 256) (h : a ≠ b) : ((bstr a).toList == (bstr b).toList) = false := by
  rw [beq_eq_false_iff_ne, Lib.toList_data, Lib.toList_data]
  intro e
  apply h
  refine bstr_inj ha hb ?_
  have : (bstr a).data = (bstr b).data := Array.ext' e
  cases h1 : bstr a
  cases h2 : bstr b
  rw [h1, h2] at this
  exact congrArg _ this

section
variable {P : Program}
theorem run_bstr (src e dst : TypeId) (hs : P.underlying src = some (.slice e)) (he : P.underlying e = some (.int .u8)) (hd : P.underlying dst = some .string)
    (A : Option Addr) (n c : Nat) (l : List Nat) (hn : n = l.length) (w : World) (B : Nat) (hr : Rd w B A (ints .u8 l)) :
    (convert src dst (.slice A n c)).run P w = .ok (.string (bstr l)) w := by
  subst hn
  rcases A with _ | a
  · rcases hr with h | ⟨b, off, h, _⟩
    · have : l = [] := by simpa [ints] using h
      subst this
      exact run_convert_bytes_nil w src e hs he _ c dst hd
    · cases h
  · rcases hr with h | ⟨b, off, h, _, hc⟩
    · have : l = [] := by simpa [ints] using h
      subst this
      have hl : (loadCells a 0).run P w = .ok (([] : List Int).map (Value.int .u8)).toArray w := by
        have := run_loadCells_list (P := P) w a [] (fun j v hj => by simp at hj)
        simpa using this
      rw [run_convert_bytes_string w src dst e _ _ c hs he hd]
      have h2 := run_bytesToString (P := P) w a 0 c [] hl
      exact h2
    · injection h with h
      subst h
      have := run_convert_bytes_arg (P := P) w src e hs he b off l.length c (l.map fun (n : Nat) => (n : Int)) (by simp) (fun i hi => by
        have h1 := hc i _ (ints_get .u8 l i hi)
        rw [h1]
        simp [hi])
      exact this dst hd
end
end Go.Proofs.YtfplppldojlanaaDoor

/- The library's tactics, in one import. -/



/- append at a step of a region that draws its order: the source a slice that reads as a list, or a string. -/

namespace Go.Proofs.YtfplppldojlanaaDoor
open Go.RowKit
set_option linter.unusedVariables false

theorem run_append_rd {P : Program} (w : World) (t ty : TypeId) (base : Nat) (e : TypeId) (z : Value) (bytes : Nat) (ht : P.underlying t = some (.slice e)) (hinfo : (P.info? e).map (fun i => (i.zero, i.size, i.bytes)) = some (some z, 1, bytes)) (hzs : z.cells.size = 1)
    (v : Value) (n : Nat) (xs : List Value) (hown : w.ownsRow base e 1 v n xs)
    (B : Nat) (A : Option Addr) (m c : Nat) (news : List Value) (hr : Rd w B A news) (hm : m = news.length) (hnil : A = none → c = 0) (h1 : ∀ u ∈ news, u.oneCell' = true)
    (h63 : n + m ≤ maxLen) (hbytes : (n + m) * bytes ≤ 140737488355328) (hbase : base ≤ w.heap.size) :
    ∃ A' c' w', (Builtin.append_ #[t, t] ty #[v, .slice A m c]).run P w = .ok (.slice A' (n + m) c') w' ∧ w'.ownsRow base e 1 (.slice A' (n + m) c') (n + m) (xs ++ news) ∧ w.grownBy w' v.ownBlock ∧ Below base w w' ∧ (A' = none → c' = 0) := by
  obtain ⟨i, hi, hz, hsz, hby⟩ := info_parts hinfo
  rcases A with _ | ad
  · have hn : news = [] := by
      rcases hr with h | ⟨b, off, h, _⟩
      · exact h
      · cases h
    subst hn
    have hm0 : m = 0 := by simpa using hm
    subst hm0
    have hc0 := hnil rfl
    subst hc0
    obtain ⟨A', c', hv, hc'⟩ := own_shape hown
    subst hv
    exact ⟨A', c', w, run_append_owned_none (P := P) (w := w) base t ty e i 1 ht hi _ n xs hown, by simpa using hown, World.grownBy.refl _ _, Below.refl _ _, hc'⟩
  · have hcells : ∀ j u, news[j]? = some u → w.cell? (ad.add j) = some u := by
      intro j u hu
      rcases hr with h | ⟨b, off, h, _, hc⟩
      · subst h; simp at hu
      · injection h with h
        subst h
        rw [add_plain]
        exact hc j u hu
    obtain ⟨v', w', hrun, h2, h3, _, _⟩ := run_append_own_at (P := P) w base t ty e i z 1 bytes ht hi hz hsz hby hzs (by omega) v n xs hown ad m c news (by omega) hcells h1 h63 hbytes hbase
    obtain ⟨A', c', hv, hc'⟩ := own_shape h2
    subst hv
    exact ⟨A', c', w', hrun, h2, h3, (Below.refl _ _).grown h3 hbase fun k hk => (hown.lt k hk).1, hc'⟩

theorem step_append_rd {P : Program} {w : World} {ops : Array Oper} {o : Oper} {a : Act} {K : Act → World → Prop} {Q : Exit → Act → World → Prop} {E : Prop} (hgd : o.guard = none) (s x : Operand) (t : TypeId)
    (ho : o.op = .call { callee := .builtin .append, args := #[s, x], argTypes := #[t, t] })
    (base : Nat) (e : TypeId) (z : Value) (bytes : Nat) (ht : P.underlying t = some (.slice e)) (hinfo : (P.info? e).map (fun i => (i.zero, i.size, i.bytes)) = some (some z, 1, bytes)) (hzs : z.cells.size = 1)
    (v : Value) (n : Nat) (xs : List Value) (hs : a.eval s = v) (hown : w.ownsRow base e 1 v n xs)
    (B : Nat) (A : Option Addr) (m c : Nat) (news : List Value) (hx : a.eval x = .slice A m c) (hr : Rd w B A news) (hm : m = news.length) (hnil : A = none → c = 0) (h1 : ∀ u ∈ news, u.oneCell' = true)
    (h63 : n + m ≤ maxLen) (hbytes : (n + m) * bytes ≤ 140737488355328) (hbase : base ≤ w.heap.size)
    (h : ∀ A' c' w', w'.ownsRow base e 1 (.slice A' (n + m) c') (n + m) (xs ++ news) → w.grownBy w' v.ownBlock → Below base w w' → (A' = none → c' = 0) → K (a.put o.dst (.slice A' (n + m) c')) w') :
    if Region.wanted o (yielded ops a.tmps) = true then Oper.wp P o a w K Q else E := by
  have hw : Region.wanted o (yielded ops a.tmps) = true := by simp [Region.wanted, hgd]
  rw [if_pos hw]
  obtain ⟨A', c', w', hrun, h2, h3, h4, h5⟩ := run_append_rd (P := P) w t o.type base e z bytes ht hinfo hzs v n xs hown B A m c news hr hm hnil h1 h63 hbytes hbase
  unfold Oper.wp execOp
  simp only [ho, resolve, invoke, builtin, Sem.run_bind, Sem.run_pure, Result.andThen_ok, List.map_toArray, List.map_cons, List.map_nil, hs, hx, hrun]
  exact h A' c' w' h2 h3 h4 h5

theorem strCells_bstr (l : List Nat) (h256 : ∀ x ∈ l, x < 256) : Lib.strCells (bstr l) = ints .u8 l := by
  unfold Lib.strCells ints
  rw [bstr_toList, List.map_map]
  refine List.map_congr_left fun x hx => ?_
  simp [Nat.mod_eq_of_lt (h256 x hx)]

theorem step_append_str {P : Program} {w : World} {ops : Array Oper} {o : Oper} {a : Act} {K : Act → World → Prop} {Q : Exit → Act → World → Prop} {E : Prop} (hgd : o.guard = none) (s x : Operand) (t u : TypeId)
    (ho : o.op = .call { callee := .builtin .append, args := #[s, x], argTypes := #[t, u] })
    (base : Nat) (e : TypeId) (ht : P.underlying t = some (.slice e)) (hu : P.underlying u = some .string) (hinfo : (P.info? e).map (fun i => (i.zero, i.size, i.bytes)) = some (some (.int .u8 0), 1, 1))
    (v : Value) (n : Nat) (xs : List Value) (hs : a.eval s = v) (hown : w.ownsRow base e 1 v n xs)
    (S : ByteArray) (hx : a.eval x = .string S) (h63 : n + S.size ≤ maxLen) (hbytes : n + S.size ≤ 140737488355328) (hbase : base ≤ w.heap.size)
    (h : ∀ A' c' w', w'.ownsRow base e 1 (.slice A' (n + S.size) c') (n + S.size) (xs ++ Lib.strCells S) → w.grownBy w' v.ownBlock → Below base w w' → (A' = none → c' = 0) → K (a.put o.dst (.slice A' (n + S.size) c')) w') :
    if Region.wanted o (yielded ops a.tmps) = true then Oper.wp P o a w K Q else E := by
  have hw : Region.wanted o (yielded ops a.tmps) = true := by simp [Region.wanted, hgd]
  rw [if_pos hw]
  obtain ⟨i, hi, hz, hsz, hby⟩ := info_parts hinfo
  obtain ⟨v', w', hrun, h2, h3, _⟩ := Lib.run_append_own_string (P := P) (w := w) base t u o.type e i ht hu hi hz hsz hby v n xs hown S h63 hbytes hbase
  obtain ⟨A', c', hv, hc'⟩ := own_shape h2
  subst hv
  unfold Oper.wp execOp
  simp only [ho, resolve, invoke, builtin, Sem.run_bind, Sem.run_pure, Result.andThen_ok, List.map_toArray, List.map_cons, List.map_nil, hs, hx, hrun]
  exact h A' c' w' h2 h3 ((Below.refl _ _).grown h3 hbase fun k hk => (hown.lt k hk).1) hc'
end Go.Proofs.YtfplppldojlanaaDoor

/- append of a row that is there, of elements of any size, at a step of a region that draws its order. -/

namespace Go.Proofs.YtfplppldojlanaaDoor
open Go.RowKit
set_option linter.unusedVariables false

theorem step_append_g {P : Program} {w : World} {ops : Array Oper} {o : Oper} {a : Act} {K : Act → World → Prop} {Q : Exit → Act → World → Prop} {E : Prop} (hgd : o.guard = none) (s x : Operand) (t : TypeId)
    (ho : o.op = .call { callee := .builtin .append, args := #[s, x], argTypes := #[t, t] })
    (base : Nat) (e : TypeId) (z : Value) (size bytes : Nat) (ht : P.underlying t = some (.slice e)) (hinfo : (P.info? e).map (fun i => (i.zero, i.size, i.bytes)) = some (some z, size, bytes)) (hzs : z.cells.size = size) (hsz0 : 0 < size)
    (v : Value) (n : Nat) (xs : List Value) (hs : a.eval s = v) (hown : w.ownsRow base e size v n xs)
    (b off m c : Nat) (news : List Value) (hx : a.eval x = .slice (some ⟨b, off, none⟩) m c) (hr : Has w (some ⟨b, off, none⟩) news) (hm : news.length = m * size) (h1 : ∀ u ∈ news, u.oneCell' = true)
    (h63 : n + m ≤ maxLen) (hbytes : (n + m) * bytes ≤ 140737488355328) (hbase : base ≤ w.heap.size)
    (h : ∀ A' c' w', w'.ownsRow base e size (.slice A' (n + m) c') (n + m) (xs ++ news) → Below base w w' → (A' = none → c' = 0) → K (a.put o.dst (.slice A' (n + m) c')) w') :
    if Region.wanted o (yielded ops a.tmps) = true then Oper.wp P o a w K Q else E := by
  have hw : Region.wanted o (yielded ops a.tmps) = true := by simp [Region.wanted, hgd]
  rw [if_pos hw]
  obtain ⟨i, hi, hz, hsz, hby⟩ := info_parts hinfo
  have hcells : ∀ j u, news[j]? = some u → w.cell? ((⟨b, off, none⟩ : Addr).add j) = some u := by
    intro j u hu
    rcases hr with h | ⟨b', off', h, _, hc⟩
    · subst h; simp at hu
    · injection h with h
      injection h with h1 h2
      subst h1 h2
      rw [add_plain]
      exact hc j u hu
  obtain ⟨v', w', hrun, h2, h3, _, _⟩ := run_append_own_at (P := P) w base t o.type e i z size bytes ht hi hz hsz hby hzs hsz0 v n xs hown ⟨b, off, none⟩ m c news hm hcells h1 h63 hbytes hbase
  obtain ⟨A', c', hv, hc'⟩ := ownG_shape h2
  subst hv
  unfold Oper.wp execOp
  simp only [ho, resolve, invoke, builtin, Sem.run_bind, Sem.run_pure, Result.andThen_ok, List.map_toArray, List.map_cons, List.map_nil, hs, hx, hrun]
  exact h A' c' w' h2 ((Below.refl _ _).grown h3 hbase fun k hk => (hown.lt k hk).1) hc'
end Go.Proofs.YtfplppldojlanaaDoor

/- Arrays of integers that came in. -/

namespace Go.Proofs.YtfplppldojlanaaDoor
open Go.RowKit
set_option linter.unusedVariables false

theorem open_arr {P : Program} {H : Type} {enc : TypeId × Value → H} {w : World} {t e : TypeId} {n : Nat} {k : IntKind} {v : Value} {d : DataW H} {p : List MemPlace} (ht : P.underlying t = some (.array n e)) (he : P.underlying e = some (.int k)) (hc : P.cellsOf t = n) (hce : P.cellsOf e = 1)
    (hv : Value.okWide P w .any 0 t v) (h : DataW.Trod enc P w 0 (fun _ => true) true t v d p) : ∃ l : List Int, v = .agg (l.map (Value.int k)).toArray ∧ l.length = n ∧ ∀ x ∈ l, (Lit.int k x).wf = true := by
  simp only [Value.okWide, ht] at hv
  obtain ⟨cs, rfl, hsz, _⟩ := hv
  obtain ⟨fuel, hf⟩ := h
  obtain ⟨xs, m, _, _, hl, hxl, hx⟩ := DataW.trod_array ht hf
  have hcs : (Value.agg cs).cells.toList = cs.toList := by simp [Value.cells]
  rw [hcs] at hx
  have hlen : cs.toList.length = n := by rw [Array.length_toList]; exact hsz.trans hc
  have key : ∀ i (hi : i < n), ∃ z, cs.toList[i]'(by rw [hlen]; exact hi) = .int k z ∧ (Lit.int k z).wf = true := by
    intro i hi
    have h1 := hx i hi
    rw [hce, Nat.mul_one] at h1
    have h2 : (cs.toList.drop i).take 1 = [cs.toList[i]'(by rw [hlen]; exact hi)] := by
      rw [List.drop_eq_getElem_cons (by rw [hlen]; exact hi)]; rfl
    rw [h2, List.getElem?_eq_getElem (by rw [hxl]; exact hi)] at h1
    obtain ⟨z, hz, _, hw⟩ := DataW.trod_int he h1
    exact ⟨z, by simpa using hz, hw⟩
  refine ⟨cs.toList.map fun v => match v with | .int _ z => z | _ => 0, ?_, by rw [List.length_map]; exact hlen, ?_⟩
  · congr 1
    apply Array.ext'
    rw [List.map_map]
    refine (List.map_id cs.toList).symm.trans (List.map_congr_left fun v hv => ?_)
    obtain ⟨i, hi, rfl⟩ := List.mem_iff_getElem.1 hv
    obtain ⟨z, hz, _⟩ := key i (by rw [← hlen]; exact hi)
    rw [hz]; rfl
  · intro x hx
    obtain ⟨v, hv, rfl⟩ := List.mem_map.1 hx
    obtain ⟨i, hi, rfl⟩ := List.mem_iff_getElem.1 hv
    obtain ⟨z, hz, hw⟩ := key i (by rw [← hlen]; exact hi)
    rw [hz]; exact hw
/-- The integers that came in, as numbers. -/
theorem of_nats {k : IntKind} {hi : Nat} (hk : ∀ n : Int, (Lit.int k n).wf = true → 0 ≤ n ∧ n < hi) (l : List Int) (h : ∀ x ∈ l, (Lit.int k x).wf = true) :
    ∃ a : List Nat, l.map (Value.int k) = ints k a ∧ a.length = l.length ∧ ∀ x ∈ a, x < hi := by
  refine ⟨l.map Int.toNat, ?_, by rw [List.length_map], fun y hy => ?_⟩
  · unfold ints
    rw [List.map_map]
    refine List.map_congr_left fun x hx => ?_
    have := hk x (h x hx)
    show Value.int k x = Value.int k ((x.toNat : Nat) : Int)
    rw [Int.toNat_of_nonneg this.1]
  · obtain ⟨z, hz, rfl⟩ := List.mem_map.1 hy
    have := hk z (h z hz)
    omega
end Go.Proofs.YtfplppldojlanaaDoor

/- Walks of what the laws lean on: Handed, Same. -/

namespace Go.Proofs.YtfplppldojlanaaDoor
open Go.RowKit
set_option linter.unusedVariables false

/-- What stands behind the bytes that are handed in. -/
def behind : List Nat := [161, 162, 163, 164, 165]

theorem run_make_cap (n c : Nat) (hnc : n ≤ c) (hc : c ≤ 1000000) (w : World) :
    (Instr.makeSlice 24 (.int .i64 (n : Int)) (.int .i64 (c : Int))).run Tryd.prog w = .ok (.slice (some ⟨w.heap.size, 0, none⟩) n c) (w.alloc (.cells (madeCells #[.int .u8 0] c) 5)) := by
  obtain ⟨i, hi, hz, hs, hb⟩ := info_parts info_u8
  have hr := run_make (P := Tryd.prog) w 24 5 i (.int .u8 0) Tryd.underlying24 hi hz .i64 .i64 n c (by omega) (by omega) (by rw [hb]; omega) (by omega)
  rw [hs, Nat.mul_one, show (Value.int IntKind.u8 0).cells = #[Value.int IntKind.u8 0] from rfl] at hr
  simpa using hr

theorem fill_step (b : List Nat) (j n : Nat) (hj : j < b.length) (hn : b.length ≤ n) : (b.take j ++ List.replicate (n - j) 0).set j b[j] = b.take (j + 1) ++ List.replicate (n - (j + 1)) 0 := by
  rw [List.set_append_right _ _ (by simp; omega), List.length_take_of_le (by omega), Nat.sub_self, show n - j = (n - (j + 1)) + 1 by omega, List.replicate_succ, List.set_cons_zero, List.take_succ_eq_append_getElem (by omega), List.append_assoc]
  rfl
theorem fill_behind (b : List Nat) (j : Nat) (hj : j < 5) : (b ++ behind.take j ++ List.replicate (5 - j) 0).set (b.length + j) (161 + j) = b ++ behind.take (j + 1) ++ List.replicate (5 - (j + 1)) 0 := by
  rw [List.append_assoc, List.set_append_right _ _ (by omega), show b.length + j - b.length = j by omega, List.append_assoc]
  congr 1
  match j, hj with
  | 0, _ => rfl
  | 1, _ => rfl
  | 2, _ => rfl
  | 3, _ => rfl
  | 4, _ => rfl

theorem behind_get (t : Nat) (ht : t < 5) : behind[t]'(by simp [behind]; omega) = 161 + t := by
  match t, ht with
  | 0, _ => rfl
  | 1, _ => rfl
  | 2, _ => rfl
  | 3, _ => rfl
  | 4, _ => rfl

end Go.Proofs.YtfplppldojlanaaDoor

/- Slices that came in: of bool; of whatever. -/

namespace Go.Proofs.YtfplppldojlanaaDoor
open Go.RowKit
set_option linter.unusedVariables false

/-- Bits as cells. -/
def bools (l : List Bool) : List Value := l.map Value.bool
theorem bools_length (l : List Bool) : (bools l).length = l.length := by simp [bools]
theorem bools_get (l : List Bool) (i : Nat) (h : i < l.length) : (bools l)[i]? = some (.bool l[i]) := by simp [bools, h]
/-- A slice of bool that came in. -/
def IsBools (w : World) (a : Option Addr) (len cap : Nat) (zs : List Bool) : Prop :=
  (a = none ∧ len = 0 ∧ cap = 0 ∧ zs = []) ∨
  ∃ x, a = some x ∧ len ≤ cap ∧ cap ≤ maxLen ∧ zs.length = cap ∧ ∀ i, i < zs.length → w.cell? (x.add i) = some (.bool (zs.getD i false))
theorem open_bools {P : Program} {H : Type} {enc : TypeId × Value → H} {w : World} {t e : TypeId} {fuel : Nat} {a : Option Addr} {len cap : Nat} {x : DataW H × List MemPlace} (ht : P.underlying t = some (.slice e)) (he : P.underlying e = some .bool) (hc : P.cellsOf e = 1)
    (h : DataW.trod enc P w 0 (fun _ => true) true fuel t (Value.slice a len cap).cells.toList = some x) : ∃ zs, IsBools w a len cap zs := by
  rcases Deep.open_slice1 ht hc h with ⟨hcs, _⟩ | ⟨a', len', cap', m, n, V, D, Pl, hcs, _, hl, hm, hmm, _, hx⟩
  · simp [Value.cells] at hcs
    obtain ⟨rfl, rfl, rfl⟩ := hcs
    exact ⟨[], .inl ⟨rfl, rfl, rfl, rfl⟩⟩
  · simp [Value.cells] at hcs
    obtain ⟨rfl, rfl, rfl⟩ := hcs
    simp only [if_true] at hmm
    subst hmm
    refine ⟨(List.range m).map fun i => match V i with | .bool b => b | _ => false, .inr ⟨a', rfl, hl, hm, by simp, fun i hi => ?_⟩⟩
    have hi' : i < m := by simpa using hi
    obtain ⟨h1, h2⟩ := hx i hi'
    obtain ⟨b, hb, _⟩ := DataW.trod_bool he h2
    have hV : V i = .bool b := by simpa using hb
    rw [h1, hV]
    simp [List.getD_eq_getElem?_getD, hi', hV]
end Go.Proofs.YtfplppldojlanaaDoor

/- Slices of bool: words. -/

namespace Go.Proofs.YtfplppldojlanaaDoor
open Go.RowKit
set_option linter.unusedVariables false

/-- Bits as numbers. -/
def nbits (l : List Bool) : List Nat := l.map Bool.toNat
theorem nbits_length (l : List Bool) : (nbits l).length = l.length := by simp [nbits]
theorem nbits_lt (l : List Bool) : ∀ x ∈ nbits l, x < 2 ^ 1 := by
  intro x hx
  obtain ⟨b, _, rfl⟩ := List.mem_map.1 hx
  cases b <;> decide
theorem nbits_get (l : List Bool) (i : Nat) (h : i < l.length) : (nbits l)[i]'(by rw [nbits_length]; exact h) = (l[i]).toNat := by simp [nbits]
theorem bools_take (l : List Bool) (j : Nat) : (bools l).take j = bools (l.take j) := by simp [bools, List.map_take]
theorem bools_drop (l : List Bool) (j : Nat) : (bools l).drop j = bools (l.drop j) := by simp [bools, List.map_drop]
theorem of_bools {w : World} {a : Option Addr} {len cap : Nat} {zs : List Bool} (h : IsBools w a len cap zs) :
    ∃ l : List Bool, l.length = len ∧ Has w a (bools l) ∧ len ≤ cap ∧ cap ≤ maxLen ∧ (a = none → cap = 0) := by
  rcases h with ⟨rfl, rfl, rfl, rfl⟩ | ⟨x, rfl, hl, hm, hz, hc⟩
  · exact ⟨[], rfl, .inl rfl, Nat.le_refl _, by unfold maxLen; omega, fun _ => rfl⟩
  · refine ⟨zs.take len, by simp; omega, ?_, hl, hm, fun h => by cases h⟩
    rcases Nat.eq_zero_or_pos len with rfl | hp
    · left; simp [bools]
    · obtain ⟨b, off, spot⟩ := x
      have h0 := hc 0 (by omega)
      have hspot : spot = none := by simpa [Addr.add] using World.cell?_spot h0
      subst hspot
      have hb := block_lt_of_cell h0
      rw [add_plain] at hb
      refine .inr ⟨b, off, rfl, hb, fun i v hv => ?_⟩
      have hi : i < len := by
        have := (List.getElem?_eq_some_iff.1 hv).1
        rw [bools_length, List.length_take] at this
        omega
      have h1 := hc i (by omega)
      rw [add_plain] at h1
      rw [h1, ← hv]
      simp [bools, List.getD_eq_getElem?_getD, show i < zs.length by omega, hi]
end Go.Proofs.YtfplppldojlanaaDoor

/- A world that has grown alone: draws, and blocks behind (what the library's sort asks of the function that it calls). -/

namespace Go.Proofs.YtfplppldojlanaaDoor
open Go.RowKit
set_option linter.unusedVariables false

def Grows (w w' : World) : Prop := ∃ (q : Nat) (os : Array Obj), w' = Go.Sort.grow (w.drewN q) os
theorem Grows.refl (w : World) : Grows w w := ⟨0, #[], by rw [Go.Sort.grow_empty]; rfl⟩
theorem Grows.alloc {w w' : World} (h : Grows w w') (o : Obj) : Grows w (w'.alloc o) := by
  obtain ⟨q, os, rfl⟩ := h
  exact ⟨q, os ++ #[o], by rw [Go.Sort.alloc_eq_grow, Go.Sort.grow_grow]⟩
theorem Grows.new (w : World) (o : Obj) : Grows w (w.alloc o) := (Grows.refl w).alloc o
theorem Grows.trans {w w' w'' : World} (h : Grows w w') (k : Grows w' w'') : Grows w w'' := by
  obtain ⟨q, os, rfl⟩ := h
  obtain ⟨r, us, rfl⟩ := k
  refine ⟨q + r, os ++ us, ?_⟩
  show Go.Sort.grow (Go.Sort.grow ((w.drewN q).drewN r) os) us = _
  rw [Go.Sort.grow_grow, World.drewN_drewN]
theorem later_grow (w : World) : ∀ l : List Obj, Later w (Go.Sort.grow w l.reverse.toArray)
  | [] => by rw [show (([] : List Obj).reverse.toArray) = #[] from rfl, Go.Sort.grow_empty]; exact Later.refl w
  | o :: l => by
    have e : Go.Sort.grow w (o :: l).reverse.toArray = (Go.Sort.grow w l.reverse.toArray).alloc o := by
      rw [Go.Sort.alloc_eq_grow, Go.Sort.grow_grow]
      congr 1
      simp
    rw [e]
    exact (later_grow w l).alloc o
theorem Grows.later {w w' : World} (h : Grows w w') : Later w w' := by
  obtain ⟨q, os, rfl⟩ := h
  have := later_grow (w.drewN q) os.toList.reverse
  rw [List.reverse_reverse, Array.toArray_toList] at this
  exact ((Later.refl w).drewN q).trans this
end Go.Proofs.YtfplppldojlanaaDoor
