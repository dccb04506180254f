
import Derived.WalkKit
import Derived.Laws.OwnMore
import Derived.Laws.BytesArg
import Derived.Laws.Rows
import Derived.Deep.AppendLies
import Derived.Deep.Draws
import Derived.Test.YtkdpjocglfephaaDoorChecked
import Derived.Deep.OwnRows
import Derived.Lib.Hide
import Derived.Deep.Quiet
import Derived.Laws.AppendOwnNone
import Derived.Lib.Strings
import Derived.Outline
import Derived.WalkLawsBesides
import Derived.WalkSpells
import Derived.PlainAid
import Derived.Deep.QuietTactic
import Derived.BigQuiet
import Derived.RegionTactic
import Derived.BigRegion
import Derived.Handy
import Derived.Laws.BitsAllLaws
import Derived.Deep.RegionWith
import Derived.Lib.AppendStr
import Derived.Deep.RegionLaw
import Derived.Maps.AppendAt
import Derived.OpenShut
import Derived.WideShapes
import Derived.ChangeArms
import Derived.Deep.Slices
import Derived.Sort.Grow
import Derived.LaidEql
import Derived.Stop.Asserts
import Derived.RowKitTokens
import Derived.Laws.BitsLemmas
import Derived.Laws.Bits64
import Derived.WalkSmall
import Derived.Stop.IfaceNil
import Derived.Lib.Bytealg
import Derived.Deep.SlicePairs
































/- Words on memory for the proofs of this seat: a slice that reads as a list (nil let in), a block that is known whole. No program is named here. -/

namespace Go.Proofs.YtkdpjocglfephaaDoor
set_option linter.unusedVariables false
open Go.RowKit

/-- The slice '.slice A xs.length c' holds the cells xs, in a block below B. -/
def Rd (w : World) (B : Nat) (A : Option Addr) (xs : List Value) : Prop :=
  xs = [] ∨ ∃ b off, A = some ⟨b, off, none⟩ ∧ b < B ∧ ∀ k v, xs[k]? = some v → w.cell? ⟨b, off + k, none⟩ = some v

/-- Numbers as cells of an integer kind. -/
def ints (k : IntKind) (l : List Nat) : List Value := l.map fun (n : Nat) => Value.int k (n : Int)

theorem ints_length (k : IntKind) (l : List Nat) : (ints k l).length = l.length := by simp [ints]
theorem ints_get (k : IntKind) (l : List Nat) (i : Nat) (h : i < l.length) : (ints k l)[i]? = some (.int k ((l[i] : Nat) : Int)) := by
  simp [ints, h]

theorem ret_int {k : IntKind} {a b : Int} (h : a = b) : Ending.returned (.int k a) = .returned (.int k b) := by rw [h]
section
variable {w w' : World} {B B' : Nat} {A : Option Addr} {xs : List Value}
theorem Rd.nil_ : Rd w B A [] := .inl rfl
theorem Rd.at_ {k : Nat} (h : Rd w B A xs) (hk : k < xs.length) : ∃ b off, A = some ⟨b, off, none⟩ ∧ b < B ∧ w.cell? ⟨b, off + k, none⟩ = some xs[k] := by
  rcases h with rfl | ⟨b, off, hA, hb, hc⟩
  · simp at hk
  · exact ⟨b, off, hA, hb, hc k _ (List.getElem?_eq_getElem hk)⟩
theorem Rd.all (h : Rd w B A xs) (hn : xs ≠ []) : ∃ b off, A = some ⟨b, off, none⟩ ∧ ∀ k v, xs[k]? = some v → w.cell? ⟨b, off + k, none⟩ = some v := by
  rcases h with rfl | ⟨b, off, hA, hb, hc⟩
  · exact absurd rfl hn
  · exact ⟨b, off, hA, hc⟩
theorem Rd.keep (h : Rd w B A xs) (hk : ∀ p : Addr, p.block < B → w'.cell? p = w.cell? p) : Rd w' B A xs := by
  rcases h with rfl | ⟨b, off, hA, hb, hc⟩
  · exact .inl rfl
  · exact .inr ⟨b, off, hA, hb, fun k v hv => (hk _ hb).trans (hc k v hv)⟩
theorem Rd.more (h : Rd w B A xs) (hB : B ≤ B') : Rd w B' A xs := by
  rcases h with rfl | ⟨b, off, hA, hb, hc⟩
  · exact .inl rfl
  · exact .inr ⟨b, off, hA, by omega, hc⟩
theorem Rd.below (h : Rd w B A xs) (hb : Below B w w') : Rd w' B A xs := h.keep fun _ hp => hb.cell hp
theorem Rd.own {base : Nat} {e : TypeId} {c n : Nat} (h : w.ownsRow base e 1 (.slice A n c) n xs) : Rd w w.heap.size A xs := by
  rcases Nat.eq_zero_or_pos n with rfl | hn
  · left
    exact List.eq_nil_of_length_eq_zero (by simpa using h.1)
  · obtain ⟨g, cap, hv, _, hlt⟩ := h.form hn
    have hA : A = some ⟨g, 0, none⟩ := by injection hv
    subst hA
    refine .inr ⟨g, 0, rfl, hlt, fun k v hv => ?_⟩
    have := h.cells (g := g) rfl k v hv
    rw [Nat.zero_add]
    rcases Nat.eq_zero_or_pos k with rfl | hk
    · simpa [Addr.add] using this
    · simpa [Addr.add, Nat.pos_iff_ne_zero.1 hk] using this
end

/-- Block g is just the numbers l, of element type t; none of it is frozen. -/
def Row (w : World) (g : Nat) (t : TypeId) (k : IntKind) (l : List Nat) : Prop := w.heap[g]? = some (.cells (ints k l).toArray t (0, 0))

section
variable {w w' : World} {g : Nat} {t : TypeId} {k : IntKind} {l : List Nat}
theorem Row.lt (h : Row w g t k l) : g < w.heap.size := by
  rcases Nat.lt_or_ge g w.heap.size with hlt | hge
  · exact hlt
  · unfold Row at h; rw [Array.getElem?_eq_none hge] at h; cases h
theorem Row.cell (h : Row w g t k l) (i : Nat) (hi : i < l.length) : w.cell? ⟨g, i, none⟩ = some (.int k ((l[i] : Nat) : Int)) := by
  rw [cell_of_row w g i _ t (0, 0) h]
  simpa using ints_get k l i hi
theorem Row.frozen (h : Row w g t k l) (i : Nat) : w.frozen? ⟨g, i, none⟩ = false := by
  unfold Row at h
  simp [World.frozen?, h]
theorem Row.set_ (h : Row w g t k l) (i n : Nat) : Row (w.setCell ⟨g, i, none⟩ (.int k (n : Int))) g t k (l.set i n) := by
  unfold Row at h ⊢
  simp [World.setCell, Array.getElem?_modify, h, ints]
theorem Row.lit (w : World) (t : TypeId) (k : IntKind) (l : List Nat) : Row (w.alloc (.cells (ints k l).toArray t)) w.heap.size t k l := heap_alloc_new w _
theorem Row.drew (h : Row w g t k l) : Row w.drew g t k l := h
theorem Row.alloc (h : Row w g t k l) (o : Obj) : Row (w.alloc o) g t k l := (Below.heap_alloc w o g h.lt).trans h
theorem Row.far (h : Row w g t k l) {p : Addr} (hp : g ≠ p.block) (u : Value) : Row (w.setCell p u) g t k l := (Below.heap_setCell w p u g hp).trans h
theorem Row.below {B : Nat} (h : Row w g t k l) (hb : Below B w w') (hg : g < B) : Row w' g t k l := (hb.block g hg).trans h
theorem Row.grown {row : Option Nat} (h : Row w g t k l) (hb : w.grownBy w' row) (hg : some g ≠ row) : Row w' g t k l := (hb.block g h.lt hg).trans h
theorem Row.own {base : Nat} (h : Row w g t k l) (hb : base ≤ g) (hm : l.length ≤ maxLen) : w.ownsRow base t 1 (.slice (some ⟨g, 0, none⟩) l.length l.length) l.length (ints k l) := by
  refine ⟨by simp [ints], .inr ⟨g, l.length, (ints k l).toArray, rfl, hb, h, Nat.le_refl _, hm, by simp [ints], by simp [List.take_of_length_le, ints]⟩⟩
theorem Row.rd (h : Row w g t k l) : Rd w w.heap.size (some ⟨g, 0, none⟩) (ints k l) :=
  .inr ⟨g, 0, rfl, h.lt, fun i v hv => by
    have hi : i < l.length := by
      have := (List.getElem?_eq_some_iff.1 hv).1
      simpa [ints] using this
    rw [ints_get k l i hi] at hv
    rw [Nat.zero_add, h.cell i hi, hv]⟩
end

end Go.Proofs.YtkdpjocglfephaaDoor

/- Rows of the table of types; a new row of noughts. -/

namespace Go.Proofs.YtkdpjocglfephaaDoor
open Go.RowKit
set_option linter.unusedVariables false

/-- A new row of noughts. -/
theorem Row.made (w : World) (t : TypeId) (k : IntKind) (n : Nat) : Row (w.alloc (.cells (madeCells #[.int k 0] n) t)) w.heap.size t k (List.replicate n 0) := by
  unfold Row
  rw [heap_alloc_new]
  congr 2
  apply Array.ext'
  rw [toList_madeCells_one]
  simp [ints]

end Go.Proofs.YtkdpjocglfephaaDoor

/- Words on memory, more: a literal of numbers; a slice of numbers that came in. -/

namespace Go.Proofs.YtkdpjocglfephaaDoor
open Go.RowKit
set_option linter.unusedVariables false

theorem rd_lit (w : World) (t : TypeId) (k : IntKind) (l : List Nat) (B : Nat) (hB : B = w.heap.size + 1) : Rd (w.alloc (.cells (ints k l).toArray t)) B (some ⟨w.heap.size, 0, none⟩) (ints k l) := by
  subst hB
  have h := (Row.lit w t k l).rd
  rwa [show (w.alloc (.cells (ints k l).toArray t)).heap.size = w.heap.size + 1 by simp] at h

theorem add_plain (b off i : Nat) : (⟨b, off, none⟩ : Addr).add i = ⟨b, off + i, none⟩ := by
  rcases Nat.eq_zero_or_pos i with rfl | h
  · simp [Addr.add]
  · have : i ≠ 0 := by omega
    simp [Addr.add, this]
/-- A slice of integers that came in, as the proof's frame tells it: as a list of numbers. -/
theorem of_row {k : IntKind} {hi : Nat} {w : World} {a : Option Addr} {len cap : Nat} {zs : List Int} (hk : ∀ n : Int, (Lit.int k n).wf = true → 0 ≤ n ∧ n < hi)
    (h : (a = none ∧ len = 0 ∧ cap = 0 ∧ zs = []) ∨
      ∃ x, a = some x ∧ len ≤ cap ∧ cap ≤ maxLen ∧ zs.length = cap ∧ (∀ i, i < zs.length → w.cell? (x.add i) = some (.int k (zs.getD i 0))) ∧ ∀ n ∈ zs, (Lit.int k n).wf = true) :
    ∃ l : List Nat, l.length = len ∧ (∀ x ∈ l, x < hi) ∧ Rd w w.heap.size a (ints k l) ∧ len ≤ cap ∧ cap ≤ maxLen := by
  rcases h with ⟨rfl, rfl, rfl, rfl⟩ | ⟨x, rfl, hl, hm, hz, hc, hw⟩
  · exact ⟨[], rfl, by simp, .inl rfl, Nat.le_refl _, by unfold maxLen; omega⟩
  · have hcast : ∀ i (hi' : i < len), zs.getD i 0 = ((zs.getD i 0).toNat : Int) := fun i hi' => by
      have : zs.getD i 0 ∈ zs := by
        rw [List.getD_eq_getElem?_getD, List.getElem?_eq_getElem (by omega), Option.getD_some]
        exact List.getElem_mem _
      have := hk _ (hw _ this)
      omega
    refine ⟨(zs.take len).map Int.toNat, by simp; omega, fun y hy => ?_, ?_, hl, hm⟩
    · obtain ⟨z, hz', rfl⟩ := List.mem_map.1 hy
      have := hk z (hw z (List.mem_of_mem_take hz'))
      omega
    · rcases Nat.eq_zero_or_pos len with rfl | hp
      · left; simp [ints]
      · obtain ⟨b, off, spot⟩ := x
        have h0 := hc 0 (by omega)
        have hspot : spot = none := by simpa [Addr.add] using World.cell?_spot h0
        subst hspot
        have hadd : ∀ i, (⟨b, off, none⟩ : Addr).add i = ⟨b, off + i, none⟩ := add_plain b off
        have hb := block_lt_of_cell h0
        rw [hadd] at hb
        refine .inr ⟨b, off, rfl, hb, fun i v hv => ?_⟩
        have hi' : i < len := by
          have := (List.getElem?_eq_some_iff.1 hv).1
          rw [ints_length, List.length_map, List.length_take] at this
          omega
        have h1 := hc i (by omega)
        rw [hadd] at h1
        rw [h1, hcast i hi']
        rw [ints_get k ((zs.take len).map Int.toNat) i (by rw [List.length_map, List.length_take]; omega)] at hv
        rw [← hv]
        simp [List.getD_eq_getElem?_getD, List.getElem?_eq_getElem (show i < zs.length by omega)]
theorem wf_u8 (n : Int) (h : (Lit.int .u8 n).wf = true) : 0 ≤ n ∧ n < (256 : Nat) := by
  simp [Lit.wf, IntKind.min, IntKind.max, IntKind.signed, IntKind.bits] at h
  omega
end Go.Proofs.YtkdpjocglfephaaDoor

/- 'Later w w'': of w nothing has turned in w'; facts that are handed on. -/

namespace Go.Proofs.YtkdpjocglfephaaDoor
open Go.RowKit
set_option linter.unusedVariables false

/-- w' is w with more: each block of w is as it was. -/
def Later (w w' : World) : Prop := Below w.heap.size w w'
section
variable {w w' w'' : World} {A : Option Addr} {xs : List Value}
theorem Later.below (h : Later w w') : Below w.heap.size w w' := h
theorem Later.of (h : Below w.heap.size w w') : Later w w' := h
theorem Later.refl (w : World) : Later w w := Below.refl _ _
theorem Later.size (h : Later w w') : w.heap.size ≤ w'.heap.size := Below.size h
theorem Later.trans (h : Later w w') (k : Later w' w'') : Later w w'' := Below.trans h (Below.mono k (Below.size h))
theorem Later.drew (h : Later w w') : Later w w'.drew := Below.drew h
theorem Later.drewN (h : Later w w') (n : Nat) : Later w (w'.drewN n) := Below.trans h ⟨rfl, rfl, rfl, Nat.le_refl _, fun _ _ => rfl⟩
theorem Later.alloc (h : Later w w') (o : Obj) : Later w (w'.alloc o) := Below.alloc h (Below.size h) o
theorem Later.new (w : World) (o : Obj) : Later w (w.alloc o) := (Later.refl w).alloc o
theorem Later.set_ (h : Later w w') {p : Addr} (hp : w.heap.size ≤ p.block) (u : Value) : Later w (w'.setCell p u) := Below.setCell h hp u
theorem Later.cell (h : Later w w') {p : Addr} {v : Value} (hc : w.cell? p = some v) : w'.cell? p = some v := (Below.cell h (block_lt_of_cell hc)).trans hc
theorem Later.row (h : Later w w') {g : Nat} {t : TypeId} {k : IntKind} {l : List Nat} (hr : Row w g t k l) : Row w' g t k l := hr.below h hr.lt

/-- The slice holds xs, in a block of w. -/
def Has (w : World) (A : Option Addr) (xs : List Value) : Prop := Rd w w.heap.size A xs
theorem Has.rd (h : Has w A xs) : Rd w w.heap.size A xs := h
theorem Has.of {B : Nat} (h : Rd w B A xs) (hB : B ≤ w.heap.size) : Has w A xs := Rd.more h hB
theorem Has.later (h : Has w A xs) (l : Later w w') : Has w' A xs := Rd.more (Rd.below h l) l.size
theorem Has.take (h : Has w A xs) (j : Nat) : Has w A (xs.take j) := by
  rcases h with rfl | ⟨b, off, hA, hb, hc⟩
  · left; simp
  · refine .inr ⟨b, off, hA, hb, fun i v hv => ?_⟩
    rw [List.getElem?_take] at hv
    split at hv
    · exact hc i v hv
    · cases hv
theorem Has.nil_ : Has w A [] := .inl rfl
theorem Has.lit (w : World) (t : TypeId) (k : IntKind) (l : List Nat) : Has (w.alloc (.cells (ints k l).toArray t)) (some ⟨w.heap.size, 0, none⟩) (ints k l) := Has.of (rd_lit w t k l _ rfl) (by simp)
theorem Has.row {g : Nat} {t : TypeId} {k : IntKind} {l : List Nat} (h : Row w g t k l) : Has w (some ⟨g, 0, none⟩) (ints k l) := h.rd
theorem Has.own {base : Nat} {e : TypeId} {c n : Nat} (h : w.ownsRow base e 1 (.slice A n c) n xs) : Has w A xs := Rd.own h
theorem Has.drop {b off : Nat} (h : Has w (some ⟨b, off, none⟩) xs) (j : Nat) : Has w (some ⟨b, off + j, none⟩) (xs.drop j) := by
  rcases h with rfl | ⟨b', off', hA, hb, hc⟩
  · left; simp
  · injection hA with hA
    injection hA with h1 h2
    subst h1 h2
    refine .inr ⟨b, off + j, rfl, hb, fun i v hv => ?_⟩
    rw [List.getElem?_drop] at hv
    have := hc (j + i) v hv
    rwa [show off + j + i = off + (j + i) by omega]
/-- Block g is just these cells. -/
def Blk (w : World) (g : Nat) (cs : Array Value) (t : TypeId) : Prop := w.heap[g]? = some (.cells cs t (0, 0))
theorem Blk.lt {g : Nat} {cs : Array Value} {t : TypeId} (h : Blk w g cs t) : g < w.heap.size := by
  rcases Nat.lt_or_ge g w.heap.size with hlt | hge
  · exact hlt
  · unfold Blk at h; rw [Array.getElem?_eq_none hge] at h; cases h
theorem Blk.later {g : Nat} {cs : Array Value} {t : TypeId} (h : Blk w g cs t) (l : Later w w') : Blk w' g cs t := (Below.block l g h.lt).trans h
theorem Blk.cell {g : Nat} {cs : Array Value} {t : TypeId} (h : Blk w g cs t) (k : Nat) (v : Value) (hk : cs[k]? = some v) : w.cell? ⟨g, k, none⟩ = some v := by
  rw [cell_of_row w g k cs t (0, 0) h]; exact hk
theorem Blk.frozen {g : Nat} {cs : Array Value} {t : TypeId} (h : Blk w g cs t) (k : Nat) : w.frozen? ⟨g, k, none⟩ = false := by
  unfold Blk at h; simp [World.frozen?, h]
theorem Blk.new (w : World) (cs : Array Value) (t : TypeId) (n : Nat) (hn : n = w.heap.size) : Blk (w.alloc (.cells cs t)) n cs t := by
  subst hn; exact heap_alloc_new w _
theorem Blk.drew {g : Nat} {cs : Array Value} {t : TypeId} (h : Blk w g cs t) : Blk w.drew g cs t := h
theorem Blk.set_ {g : Nat} {cs : Array Value} {t : TypeId} (h : Blk w g cs t) (k : Nat) (v : Value) : Blk (w.setCell ⟨g, k, none⟩ v) g (cs.setIfInBounds k v) t := by
  unfold Blk at h ⊢
  simp [World.setCell, Array.getElem?_modify, h]
theorem Blk.far {g : Nat} {cs : Array Value} {t : TypeId} (h : Blk w g cs t) {p : Addr} (hp : g ≠ p.block) (v : Value) : Blk (w.setCell p v) g cs t := (Below.heap_setCell w p v g hp).trans h
/-- The cell at a place, as a fact that the walk doesn't take for a rule. -/
def CellIs (w : World) (p : Addr) (v : Value) : Prop := w.cell? p = some v
theorem CellIs.later {p : Addr} {v : Value} (h : CellIs w p v) (l : Later w w') : CellIs w' p v := l.cell h
theorem CellIs.out {p : Addr} {v : Value} (h : CellIs w p v) : w.cell? p = some v := h
theorem CellIs.drew {p : Addr} {v : Value} (h : CellIs w p v) : CellIs w.drew p v := h
theorem CellIs.far {p q : Addr} {v u : Value} (h : CellIs w p v) (hne : p.block ≠ q.block) : CellIs (w.setCell q u) p v := (World.cell?_of_block (w := w) (Below.heap_setCell w q u p.block hne)).trans h
theorem CellIs.new (w : World) (cs : Array Value) (t : TypeId) (n k : Nat) (v : Value) (hn : n = w.heap.size) (h : cs[k]? = some v) : CellIs (w.alloc (.cells cs t)) ⟨n, k, none⟩ v := by
  unfold CellIs; subst hn; rw [World.cell?_alloc_at _ _ _ _ rfl]; simp [h]
end
end Go.Proofs.YtkdpjocglfephaaDoor

/- append onto a row of the call's own, the source whatever reads as a list; the new value's shape is told. -/

namespace Go.Proofs.YtkdpjocglfephaaDoor
open Go.RowKit
set_option linter.unusedVariables false

theorem own_cap {w : World} {base : Nat} {e : TypeId} {A : Option Addr} {c : Nat} {n : Nat} {xs : List Value} (h : w.ownsRow base e 1 (.slice A n c) n xs) : n ≤ c := by
  rcases h.2 with ⟨h1, rfl⟩ | ⟨g, cap, cur, h1, _, _, h2, _⟩
  · omega
  · injection h1 with _ _ h1
    omega
theorem Rd.take {w : World} {B : Nat} {A : Option Addr} {xs : List Value} (h : Rd w B A xs) (j : Nat) : Rd w B A (xs.take j) := by
  rcases h with rfl | ⟨b, off, hA, hb, hc⟩
  · left; simp
  · refine .inr ⟨b, off, hA, hb, fun i v hv => ?_⟩
    rw [List.getElem?_take] at hv
    split at hv
    · exact hc i v hv
    · cases hv
end Go.Proofs.YtkdpjocglfephaaDoor

/- append onto a row of the call's own, of elements of so many cells each: the source whatever reads as a list. -/

namespace Go.Proofs.YtkdpjocglfephaaDoor
open Go.RowKit
set_option linter.unusedVariables false

section
variable {w : World} {base : Nat} {e : TypeId} {size : Nat} {xs : List Value}
theorem ownG_shape {v : Value} {n : Nat} (h : w.ownsRow base e size v n xs) : ∃ A c, v = .slice A n c ∧ (A = none → c = 0) := by
  rcases h.2 with ⟨rfl, rfl⟩ | ⟨g, cap, cur, rfl, _⟩
  · exact ⟨none, 0, rfl, fun _ => rfl⟩
  · exact ⟨some ⟨g, 0, none⟩, cap, rfl, fun h => by cases h⟩
theorem ownG_cap {A : Option Addr} {c n : Nat} (h : w.ownsRow base e size (.slice A n c) n xs) : n ≤ c := by
  rcases h.2 with ⟨h1, rfl⟩ | ⟨g, cap, cur, h1, _, _, h2, _⟩
  · omega
  · injection h1 with _ _ h1
    omega
theorem ownG_capmax {A : Option Addr} {c n : Nat} (h : w.ownsRow base e size (.slice A n c) n xs) : c ≤ 9223372036854775807 := by
  rcases h.2 with ⟨h1, rfl⟩ | ⟨g, cap, cur, h1, _, _, _, h2, _⟩
  · injection h1 with _ _ h1; omega
  · injection h1 with _ _ h1
    unfold maxLen at h2
    omega
/-- What a row of the call's own holds. -/
theorem Has.ownG {A : Option Addr} {c n : Nat} (h : w.ownsRow base e size (.slice A n c) n xs) : Has w A xs := by
  rcases Nat.eq_zero_or_pos xs.length with h0 | hp
  · exact .inl (List.eq_nil_of_length_eq_zero h0)
  · obtain ⟨hl, h2⟩ := h
    rcases h2 with ⟨h1, rfl⟩ | ⟨g, cap, cur, h1, hb, hg, _, _, hcs, ht⟩
    · rw [Nat.zero_mul] at hl; omega
    · injection h1 with hA
      refine .inr ⟨g, 0, hA, ?_, fun k v hv => ?_⟩
      · rcases Nat.lt_or_ge g w.heap.size with h' | h'
        · exact h'
        · rw [Array.getElem?_eq_none h'] at hg; cases hg
      · rw [Nat.zero_add, cell_of_row w g k cur e (0, 0) hg]
        rw [← ht, List.getElem?_take] at hv
        split at hv
        · simpa using hv
        · cases hv
theorem ownG_nil (w : World) (base : Nat) (e : TypeId) (size : Nat) : w.ownsRow base e size (.slice none 0 0) 0 [] := ⟨by simp, .inl ⟨rfl, rfl⟩⟩
/-- A block known whole, as a row of the call's own. -/
theorem Blk.ownG {g n : Nat} {cs : List Value} (h : Blk w g cs.toArray e) (hb : base ≤ g) (hl : cs.length = n * size) (hm : n ≤ maxLen) : w.ownsRow base e size (.slice (some ⟨g, 0, none⟩) n n) n cs :=
  ⟨hl, .inr ⟨g, n, cs.toArray, rfl, hb, h, Nat.le_refl _, hm, by simpa using hl, by simp [← hl]⟩⟩
end

theorem wpList_append_g {P : Program} (w : World) {ops : Array Oper} {rest : List Oper} {o : Oper} {a : Act} {Q : Exit → Act → World → Prop} (hgd : o.guard = none) (s x : Operand) (t : TypeId)
    (ho : o.op = .call { callee := .builtin .append, args := #[s, x], argTypes := #[t, t] })
    (base : Nat) (e : TypeId) (z : Value) (size bytes : Nat) (ht : P.underlying t = some (.slice e)) (hinfo : (P.info? e).map (fun i => (i.zero, i.size, i.bytes)) = some (some z, size, bytes)) (hzs : z.cells.size = size) (hsz0 : 0 < size)
    (v : Value) (n : Nat) (xs : List Value) (hs : a.eval s = v) (hown : w.ownsRow base e size v n xs)
    (A : Option Addr) (m c : Nat) (news : List Value) (hx : a.eval x = .slice A m c) (hr : Has w A news) (hm : news.length = m * size) (hnil : A = none → c = 0) (h1 : ∀ u ∈ news, u.oneCell' = true)
    (h63 : n + m ≤ maxLen) (hbytes : (n + m) * bytes ≤ 140737488355328) (hbase : base ≤ w.heap.size)
    (h : ∀ A' c' w', w'.ownsRow base e size (.slice A' (n + m) c') (n + m) (xs ++ news) → w.grownBy w' v.ownBlock → Below base w w' → (A' = none → c' = 0) → wpList P ops Q rest (a.put o.dst (.slice A' (n + m) c')) w') : wpList P ops Q (o :: rest) a w := by
  obtain ⟨i, hi, hz, hsz, hby⟩ := info_parts hinfo
  rcases A with _ | ad
  · have hn : news = [] := by
      rcases hr with h | ⟨b, off, h, _⟩
      · exact h
      · cases h
    subst hn
    have hm0 : m = 0 := by
      rcases Nat.eq_zero_or_pos m with h | h
      · exact h
      · have := Nat.mul_pos h hsz0
        rw [← hm] at this
        simp at this
    subst hm0
    have hc0 := hnil rfl
    subst hc0
    obtain ⟨A', c', hv, hc'⟩ := ownG_shape hown
    subst hv
    exact wpList_append_own_none hgd s x t ho base e i size ht hi _ n xs hs hown hx (h A' c' w (by simpa using hown) (World.grownBy.refl _ _) (Below.refl _ _) hc')
  · have hcells : ∀ j u, news[j]? = some u → w.cell? (ad.add j) = some u := by
      intro j u hu
      rcases hr with h | ⟨b, off, h, _, hc⟩
      · subst h; simp at hu
      · injection h with h
        subst h
        rw [add_plain]
        exact hc j u hu
    refine wpList_append_own w hgd s x t ho base e i z size bytes ht hi hz hsz hby hzs hsz0 v n xs hs hown ad m c news hx hm hcells h1 h63 hbytes hbase fun v' w' h2 h3 _ => ?_
    obtain ⟨A', c', hv, hc'⟩ := ownG_shape h2
    subst hv
    exact h A' c' w' h2 h3 ((Below.refl _ _).grown h3 hbase fun k hk => (hown.lt k hk).1) hc'
end Go.Proofs.YtkdpjocglfephaaDoor

/- Bytes as a string. -/

namespace Go.Proofs.YtkdpjocglfephaaDoor
open Go.RowKit
set_option linter.unusedVariables false

/-- The string of these bytes. -/
def bstr (l : List Nat) : ByteArray := strOfNums (l.map fun (n : Nat) => (n : Int))
section
variable {P : Program}
theorem run_bstr (src e dst : TypeId) (hs : P.underlying src = some (.slice e)) (he : P.underlying e = some (.int .u8)) (hd : P.underlying dst = some .string)
    (A : Option Addr) (n c : Nat) (l : List Nat) (hn : n = l.length) (w : World) (B : Nat) (hr : Rd w B A (ints .u8 l)) :
    (convert src dst (.slice A n c)).run P w = .ok (.string (bstr l)) w := by
  subst hn
  rcases A with _ | a
  · rcases hr with h | ⟨b, off, h, _⟩
    · have : l = [] := by simpa [ints] using h
      subst this
      exact run_convert_bytes_nil w src e hs he _ c dst hd
    · cases h
  · rcases hr with h | ⟨b, off, h, _, hc⟩
    · have : l = [] := by simpa [ints] using h
      subst this
      have hl : (loadCells a 0).run P w = .ok (([] : List Int).map (Value.int .u8)).toArray w := by
        have := run_loadCells_list (P := P) w a [] (fun j v hj => by simp at hj)
        simpa using this
      rw [run_convert_bytes_string w src dst e _ _ c hs he hd]
      have h2 := run_bytesToString (P := P) w a 0 c [] hl
      exact h2
    · injection h with h
      subst h
      have := run_convert_bytes_arg (P := P) w src e hs he b off l.length c (l.map fun (n : Nat) => (n : Int)) (by simp) (fun i hi => by
        have h1 := hc i _ (ints_get .u8 l i hi)
        rw [h1]
        simp [hi])
      exact this dst hd
end
end Go.Proofs.YtkdpjocglfephaaDoor

/- The library's tactics, in one import. -/



/- append at a step of a region that draws its order: the source a slice that reads as a list, or a string. -/

namespace Go.Proofs.YtkdpjocglfephaaDoor
open Go.RowKit
set_option linter.unusedVariables false

end Go.Proofs.YtkdpjocglfephaaDoor

/- append of a row that is there, of elements of any size, at a step of a region that draws its order. -/

namespace Go.Proofs.YtkdpjocglfephaaDoor
open Go.RowKit
set_option linter.unusedVariables false

end Go.Proofs.YtkdpjocglfephaaDoor

/- Arrays of integers that came in. -/

namespace Go.Proofs.YtkdpjocglfephaaDoor
open Go.RowKit
set_option linter.unusedVariables false

end Go.Proofs.YtkdpjocglfephaaDoor

/- Walks of what the laws lean on: Handed, Same. -/

namespace Go.Proofs.YtkdpjocglfephaaDoor
open Go.RowKit
set_option linter.unusedVariables false

/-- What stands behind the bytes that are handed in. -/
def behind : List Nat := [161, 162, 163, 164, 165]

end Go.Proofs.YtkdpjocglfephaaDoor

/- Slices that came in: of bool; of whatever. -/

namespace Go.Proofs.YtkdpjocglfephaaDoor
open Go.RowKit
set_option linter.unusedVariables false

end Go.Proofs.YtkdpjocglfephaaDoor

/- Slices of bool: words. -/

namespace Go.Proofs.YtkdpjocglfephaaDoor
open Go.RowKit
set_option linter.unusedVariables false

end Go.Proofs.YtkdpjocglfephaaDoor

/- A world that has grown alone: draws, and blocks behind (what the library's sort asks of the function that it calls). -/

namespace Go.Proofs.YtkdpjocglfephaaDoor
open Go.RowKit
set_option linter.unusedVariables false

def Grows (w w' : World) : Prop := ∃ (q : Nat) (os : Array Obj), w' = Go.Sort.grow (w.drewN q) os
theorem Grows.refl (w : World) : Grows w w := ⟨0, #[], by rw [Go.Sort.grow_empty]; rfl⟩
theorem Grows.alloc {w w' : World} (h : Grows w w') (o : Obj) : Grows w (w'.alloc o) := by
  obtain ⟨q, os, rfl⟩ := h
  exact ⟨q, os ++ #[o], by rw [Go.Sort.alloc_eq_grow, Go.Sort.grow_grow]⟩
theorem Grows.new (w : World) (o : Obj) : Grows w (w.alloc o) := (Grows.refl w).alloc o
theorem Grows.trans {w w' w'' : World} (h : Grows w w') (k : Grows w' w'') : Grows w w'' := by
  obtain ⟨q, os, rfl⟩ := h
  obtain ⟨r, us, rfl⟩ := k
  refine ⟨q + r, os ++ us, ?_⟩
  show Go.Sort.grow (Go.Sort.grow ((w.drewN q).drewN r) os) us = _
  rw [Go.Sort.grow_grow, World.drewN_drewN]
theorem later_grow (w : World) : ∀ l : List Obj, Later w (Go.Sort.grow w l.reverse.toArray)
  | [] => by rw [show (([] : List Obj).reverse.toArray) = #[] from rfl, Go.Sort.grow_empty]; exact Later.refl w
  | o :: l => by
    have e : Go.Sort.grow w (o :: l).reverse.toArray = (Go.Sort.grow w l.reverse.toArray).alloc o := by
      rw [Go.Sort.alloc_eq_grow, Go.Sort.grow_grow]
      congr 1
      simp
    rw [e]
    exact (later_grow w l).alloc o
theorem Grows.later {w w' : World} (h : Grows w w') : Later w w' := by
  obtain ⟨q, os, rfl⟩ := h
  have := later_grow (w.drewN q) os.toList.reverse
  rw [List.reverse_reverse, Array.toArray_toList] at this
  exact ((Later.refl w).drewN q).trans this
end Go.Proofs.YtkdpjocglfephaaDoor

/- errors.Is, where the target is a sentinel of errors.New's make and the error is nil, or a *fault.Where that wraps such a sentinel. Go's own text is walked. -/






namespace Go.Proofs.YtkdpjocglfephaaDoor
open Go.RowKit
set_option linter.unusedVariables false

theorem isTypeOf (v : Value) (w : World) : (Extern.ReflectliteType.typeOf #[.iface 184 v]).run Tryd.prog w = .ok (.iface 158 (.agg #[.pointer (some ⟨8, 184, none⟩)])) w := by kernel_rfl
def cmpExt : Array Value → Sem Value := Extern.ReflectliteType.method fun t => do Extern.Rtype.noPackHeld "Comparable" t; pure (.bool (← typeInfo t).comparable)
theorem isComparable (w : World) : (cmpExt #[.agg #[.pointer (some ⟨8, 184, none⟩)]]).run Tryd.prog w = .ok (.bool true) w := by kernel_rfl
theorem isMethodComparable (v : Value) (w : World) : (Go.method 318 158 v "Comparable").run Tryd.prog w = .ok (122, v) w := by kernel_rfl
theorem isComp : (Tryd.prog.info? 184).map (·.comparable) = some true := by kernel_rfl
theorem isSize : (Tryd.prog.info? 206).map (·.size) = some 1 := by kernel_rfl
theorem noIsE (v : Value) (xT : TypeId) (w : World) : (Instr.typeAssert (.iface 184 v) xT 160 true).run Tryd.prog w = .ok (.tuple #[.nilIface, .bool false]) w := run_typeAssert_lacksB Tryd.underlying160 (by kernel_rfl) (by kernel_rfl) v xT w
theorem noUnwrapE (v : Value) (xT : TypeId) (w : World) : (Instr.typeAssert (.iface 184 v) xT 163 true).run Tryd.prog w = .ok (.tuple #[.nilIface, .bool false]) w := run_typeAssert_lacksB Tryd.underlying163 (by kernel_rfl) (by kernel_rfl) v xT w
theorem noUnwrapsE (v : Value) (xT : TypeId) (w : World) : (Instr.typeAssert (.iface 184 v) xT 165 true).run Tryd.prog w = .ok (.tuple #[.nilIface, .bool false]) w := run_typeAssert_lacksB Tryd.underlying165 (by kernel_rfl) (by kernel_rfl) v xT w
theorem noIsW (v : Value) (xT : TypeId) (w : World) : (Instr.typeAssert (.iface 144 v) xT 160 true).run Tryd.prog w = .ok (.tuple #[.nilIface, .bool false]) w := run_typeAssert_lacksB Tryd.underlying160 (by kernel_rfl) (by kernel_rfl) v xT w
theorem hasUnwrapW (v : Value) (xT : TypeId) (w : World) : (Instr.typeAssert (.iface 144 v) xT 163 true).run Tryd.prog w = .ok (.tuple #[.iface 144 v, .bool true]) w := run_typeAssert_hasB Tryd.underlying163 (by kernel_rfl) v xT w
theorem methodUnwrap (v : Value) (w : World) : (Go.method 318 144 v "Unwrap").run Tryd.prog w = .ok (119, v) w := by kernel_rfl

/-- errors.Is(nil, x). -/
theorem is_nil (b : Addr) (w : World) :
    Calls Tryd.prog 38 #[.nilIface, .iface 184 (.pointer (some b))] w fun e w' => e = .returned (.bool false) ∧ w = w' := by
  have hn := run_eql_iface_nil_left (P := Tryd.prog) w 184 (.pointer (some b)) Tryd.underlying89
  go_enter Tryd.func38, Tryd.ntmps38
  go_wp2
  go_ret
  exact ⟨rfl, rfl⟩

set_option maxRecDepth 100000 in
theorem is_wrap_same (pb po : Nat) (b : Addr) (w : World) (h1 : w.cell? ⟨pb, po + 2, none⟩ = some (.iface 184 (.pointer (some b)))) :
    Calls Tryd.prog 38 #[.iface 144 (.pointer (some ⟨pb, po, none⟩)), .iface 184 (.pointer (some b))] w fun e w' => e = .returned (.bool true) ∧ w = w' := by
  obtain ⟨i, hi, hcmp⟩ := Option.map_eq_some_iff.1 isComp
  obtain ⟨j, hj, hjs⟩ := Option.map_eq_some_iff.1 isSize
  have h8 := @run_callFunc_extern Tryd.prog 59 _ Extern.ReflectliteType.typeOf Tryd.func59 (by kernel_rfl) (by kernel_rfl) (by kernel_rfl) (by kernel_rfl)
  have h32 := @run_callFunc_extern Tryd.prog 122 _ cmpExt Tryd.func122 (by kernel_rfl) (by kernel_rfl) (by kernel_rfl) (by kernel_rfl)
  have tT := isTypeOf
  have cT := isComparable
  have mR := isMethodComparable
  have nE := noIsE
  have uE := noUnwrapE
  have vE := noUnwrapsE
  have nW := noIsW
  have uW := hasUnwrapW
  have mU := methodUnwrap
  have heq := run_eql_iface_ptr_same (P := Tryd.prog) w b Tryd.underlying89 Tryd.underlying184 hi hcmp hj
  have hty := run_eql_iface_types (P := Tryd.prog) 144 184 (.pointer (some ⟨pb, po, none⟩)) (.pointer (some b)) Tryd.underlying89 (by decide) w
  go_enter Tryd.func38, Tryd.ntmps38
  go_wp2
  refine wp_loop_rounds 2 ?_
  rw [rounds_succ]
  go_wp2
  rw [rounds_succ]
  go_wp2
  go_ret
  exact ⟨rfl, rfl⟩

end Go.Proofs.YtkdpjocglfephaaDoor
















/- Walks of package num: Put, Zig, Zag; and fault.At. -/

namespace Go.Proofs.YtkdpjocglfephaaDoor
open Go.RowKit
set_option linter.unusedVariables false

theorem at_any (s : ByteArray) (p : Int) (e : Value) (x : Value) (w : World) (he : e = .iface 184 x) :
    Calls Tryd.prog 48 #[.string s, .int .i64 p, e] w fun r w' => r = .returned (.iface 144 (.pointer (some ⟨w.heap.size, 0, none⟩))) ∧ w.alloc (.cells #[.string s, .int .i64 p, .iface 184 x] 146) = w' := by
  subst he
  go_enter Tryd.func48, Tryd.ntmps48
  go_wp2
  go_ret
  exact ⟨rfl, rfl⟩

/-- What a call hands back that makes bytes: a slice of its own. -/
def Makes (l : List Nat) (w : World) (e : Ending) (w' : World) : Prop :=
  ∃ A c, e = .returned (.slice A l.length c) ∧ w'.ownsRow w.heap.size 5 1 (.slice A l.length c) l.length (ints .u8 l) ∧ Below w.heap.size w w' ∧ (A = none → c = 0)

end Go.Proofs.YtkdpjocglfephaaDoor

/- Walks of package num: read, Take. -/

namespace Go.Proofs.YtkdpjocglfephaaDoor
open Go.RowKit
set_option linter.unusedVariables false

end Go.Proofs.YtkdpjocglfephaaDoor

/- Walks of package value: check, May, Fits, width, rank. -/


namespace Go.Proofs.YtkdpjocglfephaaDoor
open Go.RowKit
set_option linter.unusedVariables false

/-- Which values may be. -/
def MayV (t i : Int) (n : Nat) : Prop :=
  (t = 0 ∧ i = 0 ∧ n = 0) ∨ (t = 1 ∧ -32768 ≤ i ∧ i ≤ 32767 ∧ n = 0) ∨ (t = 2 ∧ n = 0) ∨ (t = 3 ∧ 0 ≤ i ∧ i ≤ 1 ∧ n = 0) ∨ (t = 4 ∧ i = 0 ∧ n ≤ 20)

end Go.Proofs.YtkdpjocglfephaaDoor











/- value.May, in a seat that reaches neither value.width nor value.Fits (there: XValB, which has it too; never import both). -/

namespace Go.Proofs.YtkdpjocglfephaaDoor
open Go.RowKit
set_option linter.unusedVariables false

/-- A call that says whether p, and leaves what was there. -/
def SaysP (p : Prop) (w : World) (e : Ending) (w' : World) : Prop := ∃ r : Bool, (r = true ↔ p) ∧ e = .returned (.bool r) ∧ Below w.heap.size w w'
theorem SaysP.yes {p : Prop} {w w' : World} (h : p) (hb : Below w.heap.size w w') : SaysP p w (.returned (.bool true)) w' := ⟨true, by simp [h], rfl, hb⟩
theorem SaysP.no {p : Prop} {w w' : World} (h : ¬ p) (hb : Below w.heap.size w w') : SaysP p w (.returned (.bool false)) w' := ⟨false, by simp [h], rfl, hb⟩

end Go.Proofs.YtkdpjocglfephaaDoor

/- Slices of api.Value: three cells an element. -/

namespace Go.Proofs.YtkdpjocglfephaaDoor
open Go.RowKit
set_option linter.unusedVariables false

/-- A value: its type, its number, its text. -/
abbrev Val3 := Int × Int × ByteArray
def fl (l : List Val3) : List Value := l.flatMap fun x => [.int .i64 x.1, .int .i64 x.2.1, .string x.2.2]
theorem fl_append (a b : List Val3) : fl (a ++ b) = fl a ++ fl b := List.flatMap_append
theorem fl_length : ∀ l : List Val3, (fl l).length = l.length * 3
  | [] => rfl
  | x :: r => by
    have := fl_length r
    show ([_, _, _] ++ fl r).length = _
    rw [List.length_append, this, List.length_cons]
    simp; omega
theorem fl_get : ∀ (l : List Val3) (k : Nat) (h : k < l.length), (fl l)[k * 3]? = some (.int .i64 l[k].1) ∧ (fl l)[k * 3 + 1]? = some (.int .i64 l[k].2.1) ∧ (fl l)[k * 3 + 2]? = some (.string l[k].2.2)
  | x :: r, 0, _ => ⟨rfl, rfl, rfl⟩
  | x :: r, k + 1, h => by
    have ih := fl_get r k (by simpa using h)
    rw [show (k + 1) * 3 = k * 3 + 3 by omega, show k * 3 + 3 + 1 = k * 3 + 1 + 3 by omega, show k * 3 + 3 + 2 = k * 3 + 2 + 3 by omega]
    exact ih
theorem fl_one (l : List Val3) : ∀ u ∈ fl l, u.oneCell' = true := by
  intro u hu
  obtain ⟨x, _, hx⟩ := List.mem_flatMap.1 hu
  simp only [List.mem_cons, List.not_mem_nil, or_false] at hx
  rcases hx with rfl | rfl | rfl <;> rfl
/-- The element k of a slice of values, in memory. -/
theorem Has.val3 {w : World} {A : Option Addr} {l : List Val3} (h : Has w A (fl l)) (k : Nat) (hk : k < l.length) :
    ∃ b off, A = some ⟨b, off, none⟩ ∧ w.cell? ⟨b, off + k * 3, none⟩ = some (.int .i64 l[k].1) ∧ w.cell? ⟨b, off + k * 3 + 1, none⟩ = some (.int .i64 l[k].2.1) ∧ w.cell? ⟨b, off + k * 3 + 2, none⟩ = some (.string l[k].2.2) := by
  rcases h with h | ⟨b, off, hA, _, hc⟩
  · have h1 := fl_length l
    rw [h] at h1
    simp at h1
    omega
  · obtain ⟨h0, h1, h2⟩ := fl_get l k hk
    exact ⟨b, off, hA, hc _ _ h0, hc _ _ h1, hc _ _ h2⟩
end Go.Proofs.YtkdpjocglfephaaDoor

/- Plain mathematics of columns, one value behind the other. -/

namespace Go.Proofs.YtkdpjocglfephaaDoor
open Go.RowKit
set_option linter.unusedVariables false

/-- A list of values of type t. -/
def OkL (t : Int) (l : List Val3) : Prop := ∀ x ∈ l, x.1 = t ∧ MayV x.1 x.2.1 x.2.2.size
/-- A value that memory can hold. -/
def In64 (i : Int) : Prop := -9223372036854775808 ≤ i ∧ i ≤ 9223372036854775807

def All64 (l : List Val3) : Prop := ∀ x ∈ l, In64 x.2.1
instance (t i : Int) (n : Nat) : Decidable (MayV t i n) := by unfold MayV; infer_instance
end Go.Proofs.YtkdpjocglfephaaDoor

/- Plain mathematics of columns by runs. -/

namespace Go.Proofs.YtkdpjocglfephaaDoor
open Go.RowKit
set_option linter.unusedVariables false

instance okLDec (t : Int) (l : List Val3) : Decidable (OkL t l) := by unfold OkL; infer_instance
end Go.Proofs.YtkdpjocglfephaaDoor

/- Plain mathematics of columns by steps. -/

namespace Go.Proofs.YtkdpjocglfephaaDoor
open Go.RowKit
set_option linter.unusedVariables false

instance okL_dec (t : Int) (l : List Val3) : Decidable (OkL t l) := by unfold OkL; infer_instance
end Go.Proofs.YtkdpjocglfephaaDoor

/- Plain mathematics of columns of few bits. -/

namespace Go.Proofs.YtkdpjocglfephaaDoor
open Go.RowKit
set_option linter.unusedVariables false

end Go.Proofs.YtkdpjocglfephaaDoor

/- Plain mathematics: bytes read as far as they go. -/

namespace Go.Proofs.YtkdpjocglfephaaDoor
open Go.RowKit
set_option linter.unusedVariables false

end Go.Proofs.YtkdpjocglfephaaDoor

/- How bytes, and values, stand: plain mathematics. -/

namespace Go.Proofs.YtkdpjocglfephaaDoor
open Go.RowKit
set_option linter.unusedVariables false

abbrev cmpS (a b : List UInt8) : Int := Lib.compareBytes a b
theorem cmpS_nil_cons (b : UInt8) (bs : List UInt8) : cmpS [] (b :: bs) = -1 := rfl
theorem cmpS_cons_nil (b : UInt8) (bs : List UInt8) : cmpS (b :: bs) [] = 1 := rfl
theorem cmpS_cons (a b : UInt8) (us bs : List UInt8) : cmpS (a :: us) (b :: bs) = if a.toNat < b.toNat then -1 else if b.toNat < a.toNat then 1 else cmpS us bs := by
  show (if a < b then _ else if b < a then _ else _) = _
  simp only [UInt8.lt_iff_toNat_lt]
theorem cmpS_in : ∀ a b : List UInt8, cmpS a b = -1 ∨ cmpS a b = 0 ∨ cmpS a b = 1
  | [], [] => .inr (.inl rfl)
  | [], _ :: _ => .inl rfl
  | _ :: _, [] => .inr (.inr rfl)
  | a :: us, b :: bs => by
    rw [cmpS_cons]
    split
    · exact .inl rfl
    · split
      · exact .inr (.inr rfl)
      · exact cmpS_in us bs
theorem cmpS_self : ∀ a : List UInt8, cmpS a a = 0
  | [] => rfl
  | a :: us => by rw [cmpS_cons, if_neg (by omega), if_neg (by omega)]; exact cmpS_self us
theorem cmpS_turn : ∀ a b : List UInt8, cmpS b a = - cmpS a b
  | [], [] => rfl
  | [], _ :: _ => rfl
  | _ :: _, [] => rfl
  | a :: us, b :: bs => by
    rw [cmpS_cons, cmpS_cons]
    have ih := cmpS_turn us bs
    by_cases h : a.toNat < b.toNat
    · simp [h, show ¬ b.toNat < a.toNat by omega]
    · by_cases h' : b.toNat < a.toNat
      · simp [h, h']
      · simp [h, h', ih]
theorem cmpS_zero : ∀ a b : List UInt8, cmpS a b = 0 → a = b
  | [], [] => fun _ => rfl
  | [], _ :: _ => fun h => by cases h
  | _ :: _, [] => fun h => by cases h
  | a :: us, b :: bs => by
    rw [cmpS_cons]
    intro h
    split at h
    · cases h
    · split at h
      · cases h
      · rw [cmpS_zero us bs h, UInt8.toNat_inj.1 (show a.toNat = b.toNat by omega)]
theorem cmpS_trans : ∀ a b c : List UInt8, cmpS a b ≤ 0 → cmpS b c ≤ 0 → cmpS a c ≤ 0 ∧ (cmpS a b < 0 ∨ cmpS b c < 0 → cmpS a c < 0)
  | [], b, [] => fun h1 h2 => by
    cases b with
    | nil => exact ⟨Int.le_refl _, fun h => by rcases h with h | h <;> exact absurd h (by decide)⟩
    | cons x xs => exact absurd h2 (by rw [cmpS_cons_nil]; decide)
  | [], b, c :: cs => fun _ _ => ⟨by rw [cmpS_nil_cons]; decide, fun _ => by rw [cmpS_nil_cons]; decide⟩
  | a :: us, [], c => fun h1 _ => absurd h1 (by rw [cmpS_cons_nil]; decide)
  | a :: us, b :: bs, [] => fun _ h2 => absurd h2 (by rw [cmpS_cons_nil]; decide)
  | a :: us, b :: bs, c :: cs => fun h1 h2 => by
    have ih := cmpS_trans us bs cs
    rw [cmpS_cons] at h1 h2 ⊢
    rw [cmpS_cons a b, cmpS_cons b c]
    by_cases hab : a.toNat < b.toNat
    · by_cases hbc : b.toNat < c.toNat
      · rw [if_pos (show a.toNat < c.toNat by omega)]; exact ⟨by decide, fun _ => by decide⟩
      · rw [if_neg hbc] at h2
        by_cases hcb : c.toNat < b.toNat
        · rw [if_pos hcb] at h2; exact absurd h2 (by decide)
        · rw [if_pos (show a.toNat < c.toNat by omega)]; exact ⟨by decide, fun _ => by decide⟩
    · rw [if_neg hab] at h1 ⊢
      by_cases hba : b.toNat < a.toNat
      · rw [if_pos hba] at h1; exact absurd h1 (by decide)
      · rw [if_neg hba] at h1 ⊢
        by_cases hbc : b.toNat < c.toNat
        · rw [if_pos (show a.toNat < c.toNat by omega)]; exact ⟨by decide, fun _ => by decide⟩
        · rw [if_neg hbc] at h2 ⊢
          by_cases hcb : c.toNat < b.toNat
          · rw [if_pos hcb] at h2; exact absurd h2 (by decide)
          · rw [if_neg hcb] at h2 ⊢
            rw [if_neg (show ¬ a.toNat < c.toNat by omega), if_neg (show ¬ c.toNat < a.toNat by omega)]
            exact ih h1 h2
theorem less_iff : ∀ a b : List UInt8, Op.bytesLess a b = decide (cmpS a b < 0)
  | [], [] => rfl
  | [], _ :: _ => rfl
  | _ :: _, [] => rfl
  | a :: us, b :: bs => by
    rw [cmpS_cons]
    unfold Op.bytesLess
    rw [less_iff us bs, Bool.eq_iff_iff]
    simp only [Bool.or_eq_true, Bool.and_eq_true, decide_eq_true_eq, beq_iff_eq, UInt8.lt_iff_toNat_lt, ← UInt8.toNat_inj]
    by_cases h : a.toNat < b.toNat
    · rw [if_pos h]; simp [h]
    · rw [if_neg h]
      by_cases h' : b.toNat < a.toNat
      · rw [if_pos h']; constructor
        · rintro (h | ⟨h, _⟩) <;> omega
        · intro h; omega
      · rw [if_neg h']; constructor
        · rintro (h | ⟨_, h⟩)
          · omega
          · exact h
        · intro h; exact .inr ⟨by omega, h⟩

/-- -1, 0, 1. -/
def cmpI (a b : Int) : Int := if a < b then -1 else if b < a then 1 else 0
theorem cmpI_lt {a b : Int} (h : a < b) : cmpI a b = -1 := if_pos h
theorem cmpI_gt {a b : Int} (h : b < a) : cmpI a b = 1 := by unfold cmpI; rw [if_neg (by omega), if_pos h]
theorem cmpI_eq {a b : Int} (h : a = b) : cmpI a b = 0 := by unfold cmpI; rw [if_neg (by omega), if_neg (by omega)]
theorem cmpI_in (a b : Int) : (a < b ∧ cmpI a b = -1) ∨ (a = b ∧ cmpI a b = 0) ∨ (b < a ∧ cmpI a b = 1) := by
  rcases Int.lt_trichotomy a b with h | h | h
  · exact .inl ⟨h, cmpI_lt h⟩
  · exact .inr (.inl ⟨h, cmpI_eq h⟩)
  · exact .inr (.inr ⟨h, cmpI_gt h⟩)

def rankV (t : Int) : Int := if t = 0 then 0 else if t = 4 then 2 else 1
theorem rankV_in (t : Int) : (t = 0 ∧ rankV t = 0) ∨ (t = 4 ∧ rankV t = 2) ∨ (t ≠ 0 ∧ t ≠ 4 ∧ rankV t = 1) := by
  unfold rankV
  by_cases h0 : t = 0
  · exact .inl ⟨h0, if_pos h0⟩
  · by_cases h4 : t = 4
    · exact .inr (.inl ⟨h4, by rw [if_neg h0, if_pos h4]⟩)
    · exact .inr (.inr ⟨h0, h4, by rw [if_neg h0, if_neg h4]⟩)

/-- How two values stand. -/
def cmpV (t i : Int) (s : ByteArray) (t' i' : Int) (s' : ByteArray) : Int :=
  if rankV t ≠ rankV t' then cmpI (rankV t) (rankV t') else if rankV t = 0 then 0 else if rankV t = 2 then cmpS s.data.toList s'.data.toList else cmpI i i'
theorem cmpV_far {t i : Int} {s : ByteArray} {t' i' : Int} {s' : ByteArray} (h : rankV t ≠ rankV t') : cmpV t i s t' i' s' = cmpI (rankV t) (rankV t') := if_pos h
theorem cmpV_near {t i : Int} {s : ByteArray} {t' i' : Int} {s' : ByteArray} (h : rankV t = rankV t') : cmpV t i s t' i' s' = if rankV t = 0 then 0 else if rankV t = 2 then cmpS s.data.toList s'.data.toList else cmpI i i' := if_neg (fun k => k h)
theorem cmpV_in (t i : Int) (s : ByteArray) (t' i' : Int) (s' : ByteArray) : cmpV t i s t' i' s' = -1 ∨ cmpV t i s t' i' s' = 0 ∨ cmpV t i s t' i' s' = 1 := by
  unfold cmpV
  split
  · rcases cmpI_in (rankV t) (rankV t') with h | h | h
    · exact .inl h.2
    · exact .inr (.inl h.2)
    · exact .inr (.inr h.2)
  · split
    · exact .inr (.inl rfl)
    · split
      · exact cmpS_in _ _
      · rcases cmpI_in i i' with h | h | h
        · exact .inl h.2
        · exact .inr (.inl h.2)
        · exact .inr (.inr h.2)
theorem cmpI_turn (a b : Int) : cmpI b a = - cmpI a b := by
  rcases cmpI_in a b with h | h | h <;> rcases cmpI_in b a with k | k | k <;> omega
theorem cmpV_turn (t i : Int) (s : ByteArray) (t' i' : Int) (s' : ByteArray) : cmpV t' i' s' t i s = - cmpV t i s t' i' s' := by
  by_cases h : rankV t = rankV t'
  · rw [cmpV_near h, cmpV_near h.symm, ← h]
    split
    · rfl
    · split
      · exact cmpS_turn _ _
      · exact cmpI_turn _ _
  · rw [cmpV_far h, cmpV_far (Ne.symm h)]; exact cmpI_turn _ _
theorem cmpV_trans (t i : Int) (s : ByteArray) (t' i' : Int) (s' : ByteArray) (u j : Int) (r : ByteArray) (h1 : cmpV t i s t' i' s' ≤ 0) (h2 : cmpV t' i' s' u j r ≤ 0) :
    cmpV t i s u j r ≤ 0 ∧ (cmpV t i s t' i' s' < 0 ∨ cmpV t' i' s' u j r < 0 → cmpV t i s u j r < 0) := by
  by_cases hab : rankV t = rankV t'
  · by_cases hbc : rankV t' = rankV u
    · have hac := hab.trans hbc
      rw [cmpV_near hab] at h1 ⊢
      rw [cmpV_near hbc, ← hab] at h2 ⊢
      rw [cmpV_near hac]
      by_cases h0 : rankV t = 0
      · simp [h0]
      · by_cases h5 : rankV t = 2
        · rw [if_neg h0, if_pos h5] at h1 h2 ⊢
          rw [if_neg h0, if_pos h5]
          rw [if_neg h0, if_pos h5]
          exact cmpS_trans _ _ _ h1 h2
        · rw [if_neg h0, if_neg h5] at h1 h2 ⊢
          rw [if_neg h0, if_neg h5]
          rw [if_neg h0, if_neg h5]
          rcases cmpI_in i i' with h | h | h <;> rcases cmpI_in i' j with k | k | k <;> rcases cmpI_in i j with l | l | l <;> omega
    · have hac : rankV t ≠ rankV u := by rw [hab]; exact hbc
      rw [cmpV_far hbc] at h2 ⊢
      rw [cmpV_far hac, hab]
      exact ⟨h2, fun _ => by rcases cmpI_in (rankV t') (rankV u) with h | h | h <;> omega⟩
  · rw [cmpV_far hab] at h1 ⊢
    have hlt : rankV t < rankV t' := by rcases cmpI_in (rankV t) (rankV t') with h | h | h <;> omega
    by_cases hbc : rankV t' = rankV u
    · have hac : rankV t ≠ rankV u := by rw [← hbc]; exact hab
      rw [cmpV_far hac, ← hbc, cmpI_lt hlt]
      exact ⟨by decide, fun _ => by decide⟩
    · rw [cmpV_far hbc] at h2
      have hlt2 : rankV t' < rankV u := by rcases cmpI_in (rankV t') (rankV u) with h | h | h <;> omega
      rw [cmpV_far (by omega), cmpI_lt (show rankV t < rankV u by omega)]
      exact ⟨by decide, fun _ => by decide⟩
end Go.Proofs.YtkdpjocglfephaaDoor

/- How values of one type stand. -/

namespace Go.Proofs.YtkdpjocglfephaaDoor
open Go.RowKit
set_option linter.unusedVariables false

end Go.Proofs.YtkdpjocglfephaaDoor

/- Plain mathematics of columns by a list of their values. -/

namespace Go.Proofs.YtkdpjocglfephaaDoor
open Go.RowKit
set_option linter.unusedVariables false

/-- How two values stand. -/
def cmp3 (x y : Val3) : Int := cmpV x.1 x.2.1 x.2.2 y.1 y.2.1 y.2.2
theorem cmp3_turn (x y : Val3) : cmp3 y x = - cmp3 x y := cmpV_turn _ _ _ _ _ _
/-- A value's place among rising ones. -/
def placeOf (d : List Val3) (v : Val3) : Nat := d.countP fun y => decide (cmp3 y v < 0)
def places (d l : List Val3) : List Nat := l.map (placeOf d)
end Go.Proofs.YtkdpjocglfephaaDoor

/- Slices of values that came in. -/

namespace Go.Proofs.YtkdpjocglfephaaDoor
open Go.RowKit
set_option linter.unusedVariables false

end Go.Proofs.YtkdpjocglfephaaDoor

/- What agg's functions come to: mathematics. -/

namespace Go.Proofs.YtkdpjocglfephaaDoor
set_option linter.unusedVariables false

/-- The least, or the greatest, so far. -/
def lstep (sg : Int) (k : Nat) (a x : Val3) : Val3 := if k = 0 ∨ sg * cmp3 x a < 0 then x else a
def leastN (sg : Int) (l : List Val3) : Nat → Val3
  | 0 => (0, 0, ⟨#[]⟩)
  | k + 1 => lstep sg k (leastN sg l k) (l.getD k (0, 0, ⟨#[]⟩))
def leastV (sg : Int) (l : List Val3) : Val3 := leastN sg l l.length
theorem leastN_succ (sg : Int) (l : List Val3) (k : Nat) (h : k < l.length) : leastN sg l (k + 1) = lstep sg k (leastN sg l k) l[k] := by
  show lstep sg k (leastN sg l k) (l.getD k (0, 0, ⟨#[]⟩)) = _
  rw [List.getD_eq_getElem?_getD, List.getElem?_eq_getElem h]; rfl

/-- The sum of the numbers. -/
def sumI : List Val3 → Int
  | [] => 0
  | x :: r => x.2.1 + sumI r
theorem sumI_append (a b : List Val3) : sumI (a ++ b) = sumI a + sumI b := by
  induction a with
  | nil => simp [sumI]
  | cons x r ih => simp only [List.cons_append, sumI, ih]; omega
def Num3 (x : Val3) : Prop := x.1 = 1 ∨ x.1 = 2
instance (x : Val3) : Decidable (Num3 x) := inferInstanceAs (Decidable (_ ∨ _))
/-- What a sum comes to: a value, or why there is none (4: EType, 5: EOver). -/
def sumV (l : List Val3) : Except Int Val3 :=
  if l = [] then .ok (0, 0, ⟨#[]⟩) else if ∀ x ∈ l, Num3 x then (if -9223372036854775808 ≤ sumI l ∧ sumI l ≤ 9223372036854775807 then .ok (2, sumI l, ⟨#[]⟩) else .error 5) else .error 4
/-- What is there of a sum in 128 bits. -/
def Sum128 (T : Int) (hi lo : Nat) : Prop := hi < 18446744073709551616 ∧ lo < 18446744073709551616 ∧ ∃ q : Int, T = q * 340282366920938463463374607431768211456 + hi * 18446744073709551616 + lo
theorem sum128_zero : Sum128 0 0 0 := ⟨by omega, by omega, 0, by omega⟩
theorem sum128_pos {T : Int} {hi lo : Nat} (h : Sum128 T hi lo) (x : Int) (h0 : 0 ≤ x) (hx : x ≤ 9223372036854775807) (u : Nat) (hu : (u : Int) = x) :
    Sum128 (T + x) ((hi + (0 + (lo + u) / 18446744073709551616) % 18446744073709551616) % 18446744073709551616) ((lo + u) % 18446744073709551616) := by
  obtain ⟨h1, h2, q, h3⟩ := h
  by_cases hc : lo + u < 18446744073709551616
  · rw [Nat.div_eq_of_lt hc, Nat.mod_eq_of_lt hc]
    have e : (hi + (0 + 0) % 18446744073709551616) % 18446744073709551616 = hi := Nat.mod_eq_of_lt h1
    rw [e]
    exact ⟨h1, hc, q, by omega⟩
  · have e1 : (lo + u) / 18446744073709551616 = 1 := by
      rw [Nat.div_eq_sub_div (by decide) (by omega), Nat.div_eq_of_lt (by omega)]
    have e2 : (lo + u) % 18446744073709551616 = lo + u - 18446744073709551616 := by
      rw [Nat.mod_eq_sub_mod (by omega), Nat.mod_eq_of_lt (by omega)]
    have e3 : (0 + 1) % 18446744073709551616 = 1 := rfl
    rw [e1, e2, e3]
    by_cases hh : hi + 1 < 18446744073709551616
    · rw [Nat.mod_eq_of_lt hh]; exact ⟨hh, by omega, q, by omega⟩
    · have : hi = 18446744073709551615 := by omega
      subst this
      exact ⟨by decide, by omega, q + 1, by omega⟩
theorem sum128_neg {T : Int} {hi lo : Nat} (h : Sum128 T hi lo) (x : Int) (h0 : x < 0) (hx : -9223372036854775808 ≤ x) (u : Nat) (hu : (u : Int) = x + 18446744073709551616) :
    Sum128 (T + x) ((hi + (18446744073709551615 + (lo + u) / 18446744073709551616) % 18446744073709551616) % 18446744073709551616) ((lo + u) % 18446744073709551616) := by
  obtain ⟨h1, h2, q, h3⟩ := h
  by_cases hc : lo + u < 18446744073709551616
  · rw [Nat.div_eq_of_lt hc, Nat.mod_eq_of_lt hc]
    have e : (18446744073709551615 + 0) % 18446744073709551616 = 18446744073709551615 := rfl
    rw [e]
    by_cases hh : hi = 0
    · subst hh
      exact ⟨by decide, hc, q - 1, by omega⟩
    · have e2 : (hi + 18446744073709551615) % 18446744073709551616 = hi - 1 := by
        rw [Nat.mod_eq_sub_mod (by omega), Nat.mod_eq_of_lt (by omega)]; omega
      rw [e2]
      exact ⟨by omega, hc, q, by omega⟩
  · have e1 : (lo + u) / 18446744073709551616 = 1 := by
      rw [Nat.div_eq_sub_div (by decide) (by omega), Nat.div_eq_of_lt (by omega)]
    have e2 : (lo + u) % 18446744073709551616 = lo + u - 18446744073709551616 := by
      rw [Nat.mod_eq_sub_mod (by omega), Nat.mod_eq_of_lt (by omega)]
    have e3 : (18446744073709551615 + 1) % 18446744073709551616 = 0 := rfl
    rw [e1, e2, e3, Nat.add_zero, Nat.mod_eq_of_lt h1]
    exact ⟨h1, by omega, q, by omega⟩
theorem sumI_bound (l : List Val3) (h : ∀ x ∈ l, -9223372036854775808 ≤ x.2.1 ∧ x.2.1 ≤ 9223372036854775807) : -9223372036854775808 * (l.length : Int) ≤ sumI l ∧ sumI l ≤ 9223372036854775807 * (l.length : Int) := by
  induction l with
  | nil => simp [sumI]
  | cons x r ih =>
    have h1 := h x (by simp)
    have h2 := ih fun y hy => h y (by simp [hy])
    simp only [sumI, List.length_cons]
    omega
/-- In the end: the sum is there just if the upper half is the lower one's sign. -/
theorem sum128_low {T : Int} {hi lo : Nat} (h : Sum128 T hi lo) (hT : -922337203685477580800000 ≤ T ∧ T ≤ 922337203685477580800000) (hl : lo < 9223372036854775808) :
    (hi = 0 ↔ (-9223372036854775808 ≤ T ∧ T ≤ 9223372036854775807)) ∧ (hi = 0 → (lo : Int) = T) := by
  obtain ⟨h1, h2, q, h3⟩ := h
  have hq : q = 0 ∨ q = -1 := by omega
  rcases hq with rfl | rfl
  · exact ⟨⟨fun e => by omega, fun e => by omega⟩, fun e => by omega⟩
  · exact ⟨⟨fun e => by omega, fun e => by omega⟩, fun e => by omega⟩
theorem sum128_high {T : Int} {hi lo : Nat} (h : Sum128 T hi lo) (hT : -922337203685477580800000 ≤ T ∧ T ≤ 922337203685477580800000) (hl : 9223372036854775808 ≤ lo) :
    (hi = 18446744073709551615 ↔ (-9223372036854775808 ≤ T ∧ T ≤ 9223372036854775807)) ∧ (hi = 18446744073709551615 → (lo : Int) - 18446744073709551616 = T) := by
  obtain ⟨h1, h2, q, h3⟩ := h
  have hq : q = 0 ∨ q = -1 := by omega
  rcases hq with rfl | rfl
  · exact ⟨⟨fun e => by omega, fun e => by omega⟩, fun e => by omega⟩
  · exact ⟨⟨fun e => by omega, fun e => by omega⟩, fun e => by omega⟩
/-- One aggregate of these places. -/
def ofV (L : List Val3) (op : Int) : Except Int Val3 :=
  if op = 1 then .ok (2, L.length, ⟨#[]⟩) else if op = 2 then sumV L else if op = 4 then .ok (leastV (-1) L) else .ok (leastV 1 L)
end Go.Proofs.YtkdpjocglfephaaDoor
