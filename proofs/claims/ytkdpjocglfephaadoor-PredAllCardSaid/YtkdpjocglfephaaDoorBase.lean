
import Derived.WalkKit
import Derived.Laws.OwnMore
import Derived.Laws.BytesArg
import Derived.Laws.Rows
import Derived.Deep.AppendLies
import Derived.Deep.Draws
import Derived.Test.YtkdpjocglfephaaDoorChecked
import Derived.Deep.OwnRows
import Derived.Lib.Hide
import Derived.Deep.Quiet
import Derived.Laws.AppendOwnNone
import Derived.Lib.Strings
import Derived.Outline
import Derived.WalkLawsBesides
import Derived.WalkSpells
import Derived.PlainAid
import Derived.Deep.QuietTactic
import Derived.BigQuiet
import Derived.RegionTactic
import Derived.BigRegion
import Derived.Handy
import Derived.Laws.BitsAllLaws
import Derived.Deep.RegionWith
import Derived.Lib.AppendStr
import Derived.Deep.RegionLaw
import Derived.Maps.AppendAt
import Derived.OpenShut
import Derived.WideShapes
import Derived.ChangeArms
import Derived.Deep.Slices
import Derived.Sort.Grow
import Derived.LaidEql
import Derived.Stop.Asserts
import Derived.RowKitTokens
import Derived.Laws.BitsLemmas
import Derived.Laws.Bits64
import Derived.WalkSmall
import Derived.Stop.IfaceNil
import Derived.Lib.Bytealg
import Derived.Deep.SlicePairs
































/- Words on memory for the proofs of this seat: a slice that reads as a list (nil let in), a block that is known whole. No program is named here. -/

namespace Go.Proofs.YtkdpjocglfephaaDoor
set_option linter.unusedVariables false
open Go.RowKit

/-- The slice '.slice A xs.length c' holds the cells xs, in a block below B. -/
def Rd (w : World) (B : Nat) (A : Option Addr) (xs : List Value) : Prop :=
  xs = [] ∨ ∃ b off, A = some ⟨b, off, none⟩ ∧ b < B ∧ ∀ k v, xs[k]? = some v → w.cell? ⟨b, off + k, none⟩ = some v

/-- Numbers as cells of an integer kind. -/
def ints (k : IntKind) (l : List Nat) : List Value := l.map fun (n : Nat) => Value.int k (n : Int)

theorem ints_length (k : IntKind) (l : List Nat) : (ints k l).length = l.length := by simp [ints]
theorem ints_get (k : IntKind) (l : List Nat) (i : Nat) (h : i < l.length) : (ints k l)[i]? = some (.int k ((l[i] : Nat) : Int)) := by
  simp [ints, h]

theorem ret_int {k : IntKind} {a b : Int} (h : a = b) : Ending.returned (.int k a) = .returned (.int k b) := by rw [h]
section
variable {w w' : World} {B B' : Nat} {A : Option Addr} {xs : List Value}
theorem Rd.nil_ : Rd w B A [] := .inl rfl
theorem Rd.at_ {k : Nat} (h : Rd w B A xs) (hk : k < xs.length) : ∃ b off, A = some ⟨b, off, none⟩ ∧ b < B ∧ w.cell? ⟨b, off + k, none⟩ = some xs[k] := by
  rcases h with rfl | ⟨b, off, hA, hb, hc⟩
  · simp at hk
  · exact ⟨b, off, hA, hb, hc k _ (List.getElem?_eq_getElem hk)⟩
theorem Rd.all (h : Rd w B A xs) (hn : xs ≠ []) : ∃ b off, A = some ⟨b, off, none⟩ ∧ ∀ k v, xs[k]? = some v → w.cell? ⟨b, off + k, none⟩ = some v := by
  rcases h with rfl | ⟨b, off, hA, hb, hc⟩
  · exact absurd rfl hn
  · exact ⟨b, off, hA, hc⟩
theorem Rd.keep (h : Rd w B A xs) (hk : ∀ p : Addr, p.block < B → w'.cell? p = w.cell? p) : Rd w' B A xs := by
  rcases h with rfl | ⟨b, off, hA, hb, hc⟩
  · exact .inl rfl
  · exact .inr ⟨b, off, hA, hb, fun k v hv => (hk _ hb).trans (hc k v hv)⟩
theorem Rd.more (h : Rd w B A xs) (hB : B ≤ B') : Rd w B' A xs := by
  rcases h with rfl | ⟨b, off, hA, hb, hc⟩
  · exact .inl rfl
  · exact .inr ⟨b, off, hA, by omega, hc⟩
theorem Rd.below (h : Rd w B A xs) (hb : Below B w w') : Rd w' B A xs := h.keep fun _ hp => hb.cell hp
theorem Rd.own {base : Nat} {e : TypeId} {c n : Nat} (h : w.ownsRow base e 1 (.slice A n c) n xs) : Rd w w.heap.size A xs := by
  rcases Nat.eq_zero_or_pos n with rfl | hn
  · left
    exact List.eq_nil_of_length_eq_zero (by simpa using h.1)
  · obtain ⟨g, cap, hv, _, hlt⟩ := h.form hn
    have hA : A = some ⟨g, 0, none⟩ := by injection hv
    subst hA
    refine .inr ⟨g, 0, rfl, hlt, fun k v hv => ?_⟩
    have := h.cells (g := g) rfl k v hv
    rw [Nat.zero_add]
    rcases Nat.eq_zero_or_pos k with rfl | hk
    · simpa [Addr.add] using this
    · simpa [Addr.add, Nat.pos_iff_ne_zero.1 hk] using this
end

/-- Block g is just the numbers l, of element type t; none of it is frozen. -/
def Row (w : World) (g : Nat) (t : TypeId) (k : IntKind) (l : List Nat) : Prop := w.heap[g]? = some (.cells (ints k l).toArray t (0, 0))

section
variable {w w' : World} {g : Nat} {t : TypeId} {k : IntKind} {l : List Nat}
theorem Row.lt (h : Row w g t k l) : g < w.heap.size := by
  rcases Nat.lt_or_ge g w.heap.size with hlt | hge
  · exact hlt
  · unfold Row at h; rw [Array.getElem?_eq_none hge] at h; cases h
theorem Row.cell (h : Row w g t k l) (i : Nat) (hi : i < l.length) : w.cell? ⟨g, i, none⟩ = some (.int k ((l[i] : Nat) : Int)) := by
  rw [cell_of_row w g i _ t (0, 0) h]
  simpa using ints_get k l i hi
theorem Row.frozen (h : Row w g t k l) (i : Nat) : w.frozen? ⟨g, i, none⟩ = false := by
  unfold Row at h
  simp [World.frozen?, h]
theorem Row.set_ (h : Row w g t k l) (i n : Nat) : Row (w.setCell ⟨g, i, none⟩ (.int k (n : Int))) g t k (l.set i n) := by
  unfold Row at h ⊢
  simp [World.setCell, Array.getElem?_modify, h, ints]
theorem Row.drew (h : Row w g t k l) : Row w.drew g t k l := h
theorem Row.alloc (h : Row w g t k l) (o : Obj) : Row (w.alloc o) g t k l := (Below.heap_alloc w o g h.lt).trans h
theorem Row.far (h : Row w g t k l) {p : Addr} (hp : g ≠ p.block) (u : Value) : Row (w.setCell p u) g t k l := (Below.heap_setCell w p u g hp).trans h
theorem Row.below {B : Nat} (h : Row w g t k l) (hb : Below B w w') (hg : g < B) : Row w' g t k l := (hb.block g hg).trans h
theorem Row.grown {row : Option Nat} (h : Row w g t k l) (hb : w.grownBy w' row) (hg : some g ≠ row) : Row w' g t k l := (hb.block g h.lt hg).trans h
theorem Row.own {base : Nat} (h : Row w g t k l) (hb : base ≤ g) (hm : l.length ≤ maxLen) : w.ownsRow base t 1 (.slice (some ⟨g, 0, none⟩) l.length l.length) l.length (ints k l) := by
  refine ⟨by simp [ints], .inr ⟨g, l.length, (ints k l).toArray, rfl, hb, h, Nat.le_refl _, hm, by simp [ints], by simp [List.take_of_length_le, ints]⟩⟩
theorem Row.rd (h : Row w g t k l) : Rd w w.heap.size (some ⟨g, 0, none⟩) (ints k l) :=
  .inr ⟨g, 0, rfl, h.lt, fun i v hv => by
    have hi : i < l.length := by
      have := (List.getElem?_eq_some_iff.1 hv).1
      simpa [ints] using this
    rw [ints_get k l i hi] at hv
    rw [Nat.zero_add, h.cell i hi, hv]⟩
end

end Go.Proofs.YtkdpjocglfephaaDoor

/- Rows of the table of types; a new row of noughts. -/

namespace Go.Proofs.YtkdpjocglfephaaDoor
open Go.RowKit
set_option linter.unusedVariables false

/-- A new row of noughts. -/
theorem Row.made (w : World) (t : TypeId) (k : IntKind) (n : Nat) : Row (w.alloc (.cells (madeCells #[.int k 0] n) t)) w.heap.size t k (List.replicate n 0) := by
  unfold Row
  rw [heap_alloc_new]
  congr 2
  apply Array.ext'
  rw [toList_madeCells_one]
  simp [ints]

end Go.Proofs.YtkdpjocglfephaaDoor

/- Words on memory, more: a literal of numbers; a slice of numbers that came in. -/

namespace Go.Proofs.YtkdpjocglfephaaDoor
open Go.RowKit
set_option linter.unusedVariables false

theorem add_plain (b off i : Nat) : (⟨b, off, none⟩ : Addr).add i = ⟨b, off + i, none⟩ := by
  rcases Nat.eq_zero_or_pos i with rfl | h
  · simp [Addr.add]
  · have : i ≠ 0 := by omega
    simp [Addr.add, this]
/-- A slice of integers that came in, as the proof's frame tells it: as a list of numbers. -/
theorem of_row {k : IntKind} {hi : Nat} {w : World} {a : Option Addr} {len cap : Nat} {zs : List Int} (hk : ∀ n : Int, (Lit.int k n).wf = true → 0 ≤ n ∧ n < hi)
    (h : (a = none ∧ len = 0 ∧ cap = 0 ∧ zs = []) ∨
      ∃ x, a = some x ∧ len ≤ cap ∧ cap ≤ maxLen ∧ zs.length = cap ∧ (∀ i, i < zs.length → w.cell? (x.add i) = some (.int k (zs.getD i 0))) ∧ ∀ n ∈ zs, (Lit.int k n).wf = true) :
    ∃ l : List Nat, l.length = len ∧ (∀ x ∈ l, x < hi) ∧ Rd w w.heap.size a (ints k l) ∧ len ≤ cap ∧ cap ≤ maxLen := by
  rcases h with ⟨rfl, rfl, rfl, rfl⟩ | ⟨x, rfl, hl, hm, hz, hc, hw⟩
  · exact ⟨[], rfl, by simp, .inl rfl, Nat.le_refl _, by unfold maxLen; omega⟩
  · have hcast : ∀ i (hi' : i < len), zs.getD i 0 = ((zs.getD i 0).toNat : Int) := fun i hi' => by
      have : zs.getD i 0 ∈ zs := by
        rw [List.getD_eq_getElem?_getD, List.getElem?_eq_getElem (by omega), Option.getD_some]
        exact List.getElem_mem _
      have := hk _ (hw _ this)
      omega
    refine ⟨(zs.take len).map Int.toNat, by simp; omega, fun y hy => ?_, ?_, hl, hm⟩
    · obtain ⟨z, hz', rfl⟩ := List.mem_map.1 hy
      have := hk z (hw z (List.mem_of_mem_take hz'))
      omega
    · rcases Nat.eq_zero_or_pos len with rfl | hp
      · left; simp [ints]
      · obtain ⟨b, off, spot⟩ := x
        have h0 := hc 0 (by omega)
        have hspot : spot = none := by simpa [Addr.add] using World.cell?_spot h0
        subst hspot
        have hadd : ∀ i, (⟨b, off, none⟩ : Addr).add i = ⟨b, off + i, none⟩ := add_plain b off
        have hb := block_lt_of_cell h0
        rw [hadd] at hb
        refine .inr ⟨b, off, rfl, hb, fun i v hv => ?_⟩
        have hi' : i < len := by
          have := (List.getElem?_eq_some_iff.1 hv).1
          rw [ints_length, List.length_map, List.length_take] at this
          omega
        have h1 := hc i (by omega)
        rw [hadd] at h1
        rw [h1, hcast i hi']
        rw [ints_get k ((zs.take len).map Int.toNat) i (by rw [List.length_map, List.length_take]; omega)] at hv
        rw [← hv]
        simp [List.getD_eq_getElem?_getD, List.getElem?_eq_getElem (show i < zs.length by omega)]
theorem wf_u8 (n : Int) (h : (Lit.int .u8 n).wf = true) : 0 ≤ n ∧ n < (256 : Nat) := by
  simp [Lit.wf, IntKind.min, IntKind.max, IntKind.signed, IntKind.bits] at h
  omega
end Go.Proofs.YtkdpjocglfephaaDoor

/- 'Later w w'': of w nothing has turned in w'; facts that are handed on. -/

namespace Go.Proofs.YtkdpjocglfephaaDoor
open Go.RowKit
set_option linter.unusedVariables false

/-- w' is w with more: each block of w is as it was. -/
def Later (w w' : World) : Prop := Below w.heap.size w w'
section
variable {w w' w'' : World} {A : Option Addr} {xs : List Value}
theorem Later.below (h : Later w w') : Below w.heap.size w w' := h
theorem Later.of (h : Below w.heap.size w w') : Later w w' := h
theorem Later.refl (w : World) : Later w w := Below.refl _ _
theorem Later.size (h : Later w w') : w.heap.size ≤ w'.heap.size := Below.size h
theorem Later.trans (h : Later w w') (k : Later w' w'') : Later w w'' := Below.trans h (Below.mono k (Below.size h))
theorem Later.drew (h : Later w w') : Later w w'.drew := Below.drew h
theorem Later.drewN (h : Later w w') (n : Nat) : Later w (w'.drewN n) := Below.trans h ⟨rfl, rfl, rfl, Nat.le_refl _, fun _ _ => rfl⟩
theorem Later.alloc (h : Later w w') (o : Obj) : Later w (w'.alloc o) := Below.alloc h (Below.size h) o
theorem Later.new (w : World) (o : Obj) : Later w (w.alloc o) := (Later.refl w).alloc o
theorem Later.set_ (h : Later w w') {p : Addr} (hp : w.heap.size ≤ p.block) (u : Value) : Later w (w'.setCell p u) := Below.setCell h hp u
theorem Later.cell (h : Later w w') {p : Addr} {v : Value} (hc : w.cell? p = some v) : w'.cell? p = some v := (Below.cell h (block_lt_of_cell hc)).trans hc
theorem Later.row (h : Later w w') {g : Nat} {t : TypeId} {k : IntKind} {l : List Nat} (hr : Row w g t k l) : Row w' g t k l := hr.below h hr.lt

/-- The slice holds xs, in a block of w. -/
def Has (w : World) (A : Option Addr) (xs : List Value) : Prop := Rd w w.heap.size A xs
theorem Has.rd (h : Has w A xs) : Rd w w.heap.size A xs := h
theorem Has.of {B : Nat} (h : Rd w B A xs) (hB : B ≤ w.heap.size) : Has w A xs := Rd.more h hB
theorem Has.later (h : Has w A xs) (l : Later w w') : Has w' A xs := Rd.more (Rd.below h l) l.size
theorem Has.take (h : Has w A xs) (j : Nat) : Has w A (xs.take j) := by
  rcases h with rfl | ⟨b, off, hA, hb, hc⟩
  · left; simp
  · refine .inr ⟨b, off, hA, hb, fun i v hv => ?_⟩
    rw [List.getElem?_take] at hv
    split at hv
    · exact hc i v hv
    · cases hv
theorem Has.nil_ : Has w A [] := .inl rfl
theorem Has.row {g : Nat} {t : TypeId} {k : IntKind} {l : List Nat} (h : Row w g t k l) : Has w (some ⟨g, 0, none⟩) (ints k l) := h.rd
theorem Has.own {base : Nat} {e : TypeId} {c n : Nat} (h : w.ownsRow base e 1 (.slice A n c) n xs) : Has w A xs := Rd.own h
theorem Has.drop {b off : Nat} (h : Has w (some ⟨b, off, none⟩) xs) (j : Nat) : Has w (some ⟨b, off + j, none⟩) (xs.drop j) := by
  rcases h with rfl | ⟨b', off', hA, hb, hc⟩
  · left; simp
  · injection hA with hA
    injection hA with h1 h2
    subst h1 h2
    refine .inr ⟨b, off + j, rfl, hb, fun i v hv => ?_⟩
    rw [List.getElem?_drop] at hv
    have := hc (j + i) v hv
    rwa [show off + j + i = off + (j + i) by omega]
/-- Block g is just these cells. -/
def Blk (w : World) (g : Nat) (cs : Array Value) (t : TypeId) : Prop := w.heap[g]? = some (.cells cs t (0, 0))
theorem Blk.lt {g : Nat} {cs : Array Value} {t : TypeId} (h : Blk w g cs t) : g < w.heap.size := by
  rcases Nat.lt_or_ge g w.heap.size with hlt | hge
  · exact hlt
  · unfold Blk at h; rw [Array.getElem?_eq_none hge] at h; cases h
theorem Blk.later {g : Nat} {cs : Array Value} {t : TypeId} (h : Blk w g cs t) (l : Later w w') : Blk w' g cs t := (Below.block l g h.lt).trans h
theorem Blk.cell {g : Nat} {cs : Array Value} {t : TypeId} (h : Blk w g cs t) (k : Nat) (v : Value) (hk : cs[k]? = some v) : w.cell? ⟨g, k, none⟩ = some v := by
  rw [cell_of_row w g k cs t (0, 0) h]; exact hk
theorem Blk.frozen {g : Nat} {cs : Array Value} {t : TypeId} (h : Blk w g cs t) (k : Nat) : w.frozen? ⟨g, k, none⟩ = false := by
  unfold Blk at h; simp [World.frozen?, h]
theorem Blk.new (w : World) (cs : Array Value) (t : TypeId) (n : Nat) (hn : n = w.heap.size) : Blk (w.alloc (.cells cs t)) n cs t := by
  subst hn; exact heap_alloc_new w _
theorem Blk.drew {g : Nat} {cs : Array Value} {t : TypeId} (h : Blk w g cs t) : Blk w.drew g cs t := h
theorem Blk.set_ {g : Nat} {cs : Array Value} {t : TypeId} (h : Blk w g cs t) (k : Nat) (v : Value) : Blk (w.setCell ⟨g, k, none⟩ v) g (cs.setIfInBounds k v) t := by
  unfold Blk at h ⊢
  simp [World.setCell, Array.getElem?_modify, h]
theorem Blk.far {g : Nat} {cs : Array Value} {t : TypeId} (h : Blk w g cs t) {p : Addr} (hp : g ≠ p.block) (v : Value) : Blk (w.setCell p v) g cs t := (Below.heap_setCell w p v g hp).trans h
/-- The cell at a place, as a fact that the walk doesn't take for a rule. -/
def CellIs (w : World) (p : Addr) (v : Value) : Prop := w.cell? p = some v
theorem CellIs.later {p : Addr} {v : Value} (h : CellIs w p v) (l : Later w w') : CellIs w' p v := l.cell h
theorem CellIs.out {p : Addr} {v : Value} (h : CellIs w p v) : w.cell? p = some v := h
theorem CellIs.drew {p : Addr} {v : Value} (h : CellIs w p v) : CellIs w.drew p v := h
theorem CellIs.far {p q : Addr} {v u : Value} (h : CellIs w p v) (hne : p.block ≠ q.block) : CellIs (w.setCell q u) p v := (World.cell?_of_block (w := w) (Below.heap_setCell w q u p.block hne)).trans h
theorem CellIs.new (w : World) (cs : Array Value) (t : TypeId) (n k : Nat) (v : Value) (hn : n = w.heap.size) (h : cs[k]? = some v) : CellIs (w.alloc (.cells cs t)) ⟨n, k, none⟩ v := by
  unfold CellIs; subst hn; rw [World.cell?_alloc_at _ _ _ _ rfl]; simp [h]
end
end Go.Proofs.YtkdpjocglfephaaDoor

/- append onto a row of the call's own, the source whatever reads as a list; the new value's shape is told. -/

namespace Go.Proofs.YtkdpjocglfephaaDoor
open Go.RowKit
set_option linter.unusedVariables false

theorem own_cap {w : World} {base : Nat} {e : TypeId} {A : Option Addr} {c : Nat} {n : Nat} {xs : List Value} (h : w.ownsRow base e 1 (.slice A n c) n xs) : n ≤ c := by
  rcases h.2 with ⟨h1, rfl⟩ | ⟨g, cap, cur, h1, _, _, h2, _⟩
  · omega
  · injection h1 with _ _ h1
    omega
theorem Rd.take {w : World} {B : Nat} {A : Option Addr} {xs : List Value} (h : Rd w B A xs) (j : Nat) : Rd w B A (xs.take j) := by
  rcases h with rfl | ⟨b, off, hA, hb, hc⟩
  · left; simp
  · refine .inr ⟨b, off, hA, hb, fun i v hv => ?_⟩
    rw [List.getElem?_take] at hv
    split at hv
    · exact hc i v hv
    · cases hv
theorem ints_snoc (k : IntKind) (l r : List Nat) : ints k (l ++ r) = ints k l ++ ints k r := by simp [ints]
theorem ints_one (k : IntKind) (l : List Nat) : ∀ u ∈ ints k l, u.oneCell' = true := by
  intro u hu
  obtain ⟨n, _, rfl⟩ := List.mem_map.1 hu
  rfl

end Go.Proofs.YtkdpjocglfephaaDoor

/- append onto a row of the call's own, of elements of so many cells each: the source whatever reads as a list. -/

namespace Go.Proofs.YtkdpjocglfephaaDoor
open Go.RowKit
set_option linter.unusedVariables false

section
variable {w : World} {base : Nat} {e : TypeId} {size : Nat} {xs : List Value}
theorem ownG_shape {v : Value} {n : Nat} (h : w.ownsRow base e size v n xs) : ∃ A c, v = .slice A n c ∧ (A = none → c = 0) := by
  rcases h.2 with ⟨rfl, rfl⟩ | ⟨g, cap, cur, rfl, _⟩
  · exact ⟨none, 0, rfl, fun _ => rfl⟩
  · exact ⟨some ⟨g, 0, none⟩, cap, rfl, fun h => by cases h⟩
theorem ownG_cap {A : Option Addr} {c n : Nat} (h : w.ownsRow base e size (.slice A n c) n xs) : n ≤ c := by
  rcases h.2 with ⟨h1, rfl⟩ | ⟨g, cap, cur, h1, _, _, h2, _⟩
  · omega
  · injection h1 with _ _ h1
    omega
theorem ownG_capmax {A : Option Addr} {c n : Nat} (h : w.ownsRow base e size (.slice A n c) n xs) : c ≤ 9223372036854775807 := by
  rcases h.2 with ⟨h1, rfl⟩ | ⟨g, cap, cur, h1, _, _, _, h2, _⟩
  · injection h1 with _ _ h1; omega
  · injection h1 with _ _ h1
    unfold maxLen at h2
    omega
/-- What a row of the call's own holds. -/
theorem Has.ownG {A : Option Addr} {c n : Nat} (h : w.ownsRow base e size (.slice A n c) n xs) : Has w A xs := by
  rcases Nat.eq_zero_or_pos xs.length with h0 | hp
  · exact .inl (List.eq_nil_of_length_eq_zero h0)
  · obtain ⟨hl, h2⟩ := h
    rcases h2 with ⟨h1, rfl⟩ | ⟨g, cap, cur, h1, hb, hg, _, _, hcs, ht⟩
    · rw [Nat.zero_mul] at hl; omega
    · injection h1 with hA
      refine .inr ⟨g, 0, hA, ?_, fun k v hv => ?_⟩
      · rcases Nat.lt_or_ge g w.heap.size with h' | h'
        · exact h'
        · rw [Array.getElem?_eq_none h'] at hg; cases hg
      · rw [Nat.zero_add, cell_of_row w g k cur e (0, 0) hg]
        rw [← ht, List.getElem?_take] at hv
        split at hv
        · simpa using hv
        · cases hv
theorem ownG_nil (w : World) (base : Nat) (e : TypeId) (size : Nat) : w.ownsRow base e size (.slice none 0 0) 0 [] := ⟨by simp, .inl ⟨rfl, rfl⟩⟩
/-- A block known whole, as a row of the call's own. -/
theorem Blk.ownG {g n : Nat} {cs : List Value} (h : Blk w g cs.toArray e) (hb : base ≤ g) (hl : cs.length = n * size) (hm : n ≤ maxLen) : w.ownsRow base e size (.slice (some ⟨g, 0, none⟩) n n) n cs :=
  ⟨hl, .inr ⟨g, n, cs.toArray, rfl, hb, h, Nat.le_refl _, hm, by simpa using hl, by simp [← hl]⟩⟩
end

theorem wpList_append_g {P : Program} (w : World) {ops : Array Oper} {rest : List Oper} {o : Oper} {a : Act} {Q : Exit → Act → World → Prop} (hgd : o.guard = none) (s x : Operand) (t : TypeId)
    (ho : o.op = .call { callee := .builtin .append, args := #[s, x], argTypes := #[t, t] })
    (base : Nat) (e : TypeId) (z : Value) (size bytes : Nat) (ht : P.underlying t = some (.slice e)) (hinfo : (P.info? e).map (fun i => (i.zero, i.size, i.bytes)) = some (some z, size, bytes)) (hzs : z.cells.size = size) (hsz0 : 0 < size)
    (v : Value) (n : Nat) (xs : List Value) (hs : a.eval s = v) (hown : w.ownsRow base e size v n xs)
    (A : Option Addr) (m c : Nat) (news : List Value) (hx : a.eval x = .slice A m c) (hr : Has w A news) (hm : news.length = m * size) (hnil : A = none → c = 0) (h1 : ∀ u ∈ news, u.oneCell' = true)
    (h63 : n + m ≤ maxLen) (hbytes : (n + m) * bytes ≤ 140737488355328) (hbase : base ≤ w.heap.size)
    (h : ∀ A' c' w', w'.ownsRow base e size (.slice A' (n + m) c') (n + m) (xs ++ news) → w.grownBy w' v.ownBlock → Below base w w' → (A' = none → c' = 0) → wpList P ops Q rest (a.put o.dst (.slice A' (n + m) c')) w') : wpList P ops Q (o :: rest) a w := by
  obtain ⟨i, hi, hz, hsz, hby⟩ := info_parts hinfo
  rcases A with _ | ad
  · have hn : news = [] := by
      rcases hr with h | ⟨b, off, h, _⟩
      · exact h
      · cases h
    subst hn
    have hm0 : m = 0 := by
      rcases Nat.eq_zero_or_pos m with h | h
      · exact h
      · have := Nat.mul_pos h hsz0
        rw [← hm] at this
        simp at this
    subst hm0
    have hc0 := hnil rfl
    subst hc0
    obtain ⟨A', c', hv, hc'⟩ := ownG_shape hown
    subst hv
    exact wpList_append_own_none hgd s x t ho base e i size ht hi _ n xs hs hown hx (h A' c' w (by simpa using hown) (World.grownBy.refl _ _) (Below.refl _ _) hc')
  · have hcells : ∀ j u, news[j]? = some u → w.cell? (ad.add j) = some u := by
      intro j u hu
      rcases hr with h | ⟨b, off, h, _, hc⟩
      · subst h; simp at hu
      · injection h with h
        subst h
        rw [add_plain]
        exact hc j u hu
    refine wpList_append_own w hgd s x t ho base e i z size bytes ht hi hz hsz hby hzs hsz0 v n xs hs hown ad m c news hx hm hcells h1 h63 hbytes hbase fun v' w' h2 h3 _ => ?_
    obtain ⟨A', c', hv, hc'⟩ := ownG_shape h2
    subst hv
    exact h A' c' w' h2 h3 ((Below.refl _ _).grown h3 hbase fun k hk => (hown.lt k hk).1) hc'
end Go.Proofs.YtkdpjocglfephaaDoor

/- Bytes as a string. -/

namespace Go.Proofs.YtkdpjocglfephaaDoor
open Go.RowKit
set_option linter.unusedVariables false

/-- The string of these bytes. -/
def bstr (l : List Nat) : ByteArray := strOfNums (l.map fun (n : Nat) => (n : Int))
section
variable {P : Program}
theorem run_bstr (src e dst : TypeId) (hs : P.underlying src = some (.slice e)) (he : P.underlying e = some (.int .u8)) (hd : P.underlying dst = some .string)
    (A : Option Addr) (n c : Nat) (l : List Nat) (hn : n = l.length) (w : World) (B : Nat) (hr : Rd w B A (ints .u8 l)) :
    (convert src dst (.slice A n c)).run P w = .ok (.string (bstr l)) w := by
  subst hn
  rcases A with _ | a
  · rcases hr with h | ⟨b, off, h, _⟩
    · have : l = [] := by simpa [ints] using h
      subst this
      exact run_convert_bytes_nil w src e hs he _ c dst hd
    · cases h
  · rcases hr with h | ⟨b, off, h, _, hc⟩
    · have : l = [] := by simpa [ints] using h
      subst this
      have hl : (loadCells a 0).run P w = .ok (([] : List Int).map (Value.int .u8)).toArray w := by
        have := run_loadCells_list (P := P) w a [] (fun j v hj => by simp at hj)
        simpa using this
      rw [run_convert_bytes_string w src dst e _ _ c hs he hd]
      have h2 := run_bytesToString (P := P) w a 0 c [] hl
      exact h2
    · injection h with h
      subst h
      have := run_convert_bytes_arg (P := P) w src e hs he b off l.length c (l.map fun (n : Nat) => (n : Int)) (by simp) (fun i hi => by
        have h1 := hc i _ (ints_get .u8 l i hi)
        rw [h1]
        simp [hi])
      exact this dst hd
end
end Go.Proofs.YtkdpjocglfephaaDoor

/- The library's tactics, in one import. -/



/- append at a step of a region that draws its order: the source a slice that reads as a list, or a string. -/

namespace Go.Proofs.YtkdpjocglfephaaDoor
open Go.RowKit
set_option linter.unusedVariables false

end Go.Proofs.YtkdpjocglfephaaDoor

/- append of a row that is there, of elements of any size, at a step of a region that draws its order. -/

namespace Go.Proofs.YtkdpjocglfephaaDoor
open Go.RowKit
set_option linter.unusedVariables false

end Go.Proofs.YtkdpjocglfephaaDoor

/- Arrays of integers that came in. -/

namespace Go.Proofs.YtkdpjocglfephaaDoor
open Go.RowKit
set_option linter.unusedVariables false

end Go.Proofs.YtkdpjocglfephaaDoor

/- Walks of what the laws lean on: Handed, Same. -/

namespace Go.Proofs.YtkdpjocglfephaaDoor
open Go.RowKit
set_option linter.unusedVariables false

/-- What stands behind the bytes that are handed in. -/
def behind : List Nat := [161, 162, 163, 164, 165]

end Go.Proofs.YtkdpjocglfephaaDoor

/- Slices that came in: of bool; of whatever. -/

namespace Go.Proofs.YtkdpjocglfephaaDoor
open Go.RowKit
set_option linter.unusedVariables false

end Go.Proofs.YtkdpjocglfephaaDoor

/- Slices of bool: words. -/

namespace Go.Proofs.YtkdpjocglfephaaDoor
open Go.RowKit
set_option linter.unusedVariables false

end Go.Proofs.YtkdpjocglfephaaDoor

/- A world that has grown alone: draws, and blocks behind (what the library's sort asks of the function that it calls). -/

namespace Go.Proofs.YtkdpjocglfephaaDoor
open Go.RowKit
set_option linter.unusedVariables false

def Grows (w w' : World) : Prop := ∃ (q : Nat) (os : Array Obj), w' = Go.Sort.grow (w.drewN q) os
theorem Grows.refl (w : World) : Grows w w := ⟨0, #[], by rw [Go.Sort.grow_empty]; rfl⟩
theorem Grows.alloc {w w' : World} (h : Grows w w') (o : Obj) : Grows w (w'.alloc o) := by
  obtain ⟨q, os, rfl⟩ := h
  exact ⟨q, os ++ #[o], by rw [Go.Sort.alloc_eq_grow, Go.Sort.grow_grow]⟩
theorem Grows.new (w : World) (o : Obj) : Grows w (w.alloc o) := (Grows.refl w).alloc o
theorem Grows.trans {w w' w'' : World} (h : Grows w w') (k : Grows w' w'') : Grows w w'' := by
  obtain ⟨q, os, rfl⟩ := h
  obtain ⟨r, us, rfl⟩ := k
  refine ⟨q + r, os ++ us, ?_⟩
  show Go.Sort.grow (Go.Sort.grow ((w.drewN q).drewN r) os) us = _
  rw [Go.Sort.grow_grow, World.drewN_drewN]
theorem later_grow (w : World) : ∀ l : List Obj, Later w (Go.Sort.grow w l.reverse.toArray)
  | [] => by rw [show (([] : List Obj).reverse.toArray) = #[] from rfl, Go.Sort.grow_empty]; exact Later.refl w
  | o :: l => by
    have e : Go.Sort.grow w (o :: l).reverse.toArray = (Go.Sort.grow w l.reverse.toArray).alloc o := by
      rw [Go.Sort.alloc_eq_grow, Go.Sort.grow_grow]
      congr 1
      simp
    rw [e]
    exact (later_grow w l).alloc o
theorem Grows.later {w w' : World} (h : Grows w w') : Later w w' := by
  obtain ⟨q, os, rfl⟩ := h
  have := later_grow (w.drewN q) os.toList.reverse
  rw [List.reverse_reverse, Array.toArray_toList] at this
  exact ((Later.refl w).drewN q).trans this
end Go.Proofs.YtkdpjocglfephaaDoor
















/- Walks of package num: Put, Zig, Zag; and fault.At. -/

namespace Go.Proofs.YtkdpjocglfephaaDoor
open Go.RowKit
set_option linter.unusedVariables false

theorem at_any (s : ByteArray) (p : Int) (e : Value) (x : Value) (w : World) (he : e = .iface 184 x) :
    Calls Tryd.prog 48 #[.string s, .int .i64 p, e] w fun r w' => r = .returned (.iface 144 (.pointer (some ⟨w.heap.size, 0, none⟩))) ∧ w.alloc (.cells #[.string s, .int .i64 p, .iface 184 x] 146) = w' := by
  subst he
  go_enter Tryd.func48, Tryd.ntmps48
  go_wp2
  go_ret
  exact ⟨rfl, rfl⟩

/-- What a call hands back that makes bytes: a slice of its own. -/
def Makes (l : List Nat) (w : World) (e : Ending) (w' : World) : Prop :=
  ∃ A c, e = .returned (.slice A l.length c) ∧ w'.ownsRow w.heap.size 5 1 (.slice A l.length c) l.length (ints .u8 l) ∧ Below w.heap.size w w' ∧ (A = none → c = 0)

end Go.Proofs.YtkdpjocglfephaaDoor

/- Walks of package num: read, Take. -/

namespace Go.Proofs.YtkdpjocglfephaaDoor
open Go.RowKit
set_option linter.unusedVariables false

end Go.Proofs.YtkdpjocglfephaaDoor

/- Walks of package value: check, May, Fits, width, rank. -/


namespace Go.Proofs.YtkdpjocglfephaaDoor
open Go.RowKit
set_option linter.unusedVariables false

/-- Which values may be. -/
def MayV (t i : Int) (n : Nat) : Prop :=
  (t = 0 ∧ i = 0 ∧ n = 0) ∨ (t = 1 ∧ -32768 ≤ i ∧ i ≤ 32767 ∧ n = 0) ∨ (t = 2 ∧ n = 0) ∨ (t = 3 ∧ 0 ≤ i ∧ i ≤ 1 ∧ n = 0) ∨ (t = 4 ∧ i = 0 ∧ n ≤ 20)

end Go.Proofs.YtkdpjocglfephaaDoor











/- value.May, in a seat that reaches neither value.width nor value.Fits (there: XValB, which has it too; never import both). -/

namespace Go.Proofs.YtkdpjocglfephaaDoor
open Go.RowKit
set_option linter.unusedVariables false

/-- A call that says whether p, and leaves what was there. -/
def SaysP (p : Prop) (w : World) (e : Ending) (w' : World) : Prop := ∃ r : Bool, (r = true ↔ p) ∧ e = .returned (.bool r) ∧ Below w.heap.size w w'
theorem SaysP.yes {p : Prop} {w w' : World} (h : p) (hb : Below w.heap.size w w') : SaysP p w (.returned (.bool true)) w' := ⟨true, by simp [h], rfl, hb⟩
theorem SaysP.no {p : Prop} {w w' : World} (h : ¬ p) (hb : Below w.heap.size w w') : SaysP p w (.returned (.bool false)) w' := ⟨false, by simp [h], rfl, hb⟩

end Go.Proofs.YtkdpjocglfephaaDoor

/- Slices of api.Value: three cells an element. -/

namespace Go.Proofs.YtkdpjocglfephaaDoor
open Go.RowKit
set_option linter.unusedVariables false

/-- A value: its type, its number, its text. -/
abbrev Val3 := Int × Int × ByteArray
def fl (l : List Val3) : List Value := l.flatMap fun x => [.int .i64 x.1, .int .i64 x.2.1, .string x.2.2]
theorem fl_append (a b : List Val3) : fl (a ++ b) = fl a ++ fl b := List.flatMap_append
theorem fl_length : ∀ l : List Val3, (fl l).length = l.length * 3
  | [] => rfl
  | x :: r => by
    have := fl_length r
    show ([_, _, _] ++ fl r).length = _
    rw [List.length_append, this, List.length_cons]
    simp; omega
theorem fl_get : ∀ (l : List Val3) (k : Nat) (h : k < l.length), (fl l)[k * 3]? = some (.int .i64 l[k].1) ∧ (fl l)[k * 3 + 1]? = some (.int .i64 l[k].2.1) ∧ (fl l)[k * 3 + 2]? = some (.string l[k].2.2)
  | x :: r, 0, _ => ⟨rfl, rfl, rfl⟩
  | x :: r, k + 1, h => by
    have ih := fl_get r k (by simpa using h)
    rw [show (k + 1) * 3 = k * 3 + 3 by omega, show k * 3 + 3 + 1 = k * 3 + 1 + 3 by omega, show k * 3 + 3 + 2 = k * 3 + 2 + 3 by omega]
    exact ih
theorem fl_one (l : List Val3) : ∀ u ∈ fl l, u.oneCell' = true := by
  intro u hu
  obtain ⟨x, _, hx⟩ := List.mem_flatMap.1 hu
  simp only [List.mem_cons, List.not_mem_nil, or_false] at hx
  rcases hx with rfl | rfl | rfl <;> rfl
/-- The element k of a slice of values, in memory. -/
theorem Has.val3 {w : World} {A : Option Addr} {l : List Val3} (h : Has w A (fl l)) (k : Nat) (hk : k < l.length) :
    ∃ b off, A = some ⟨b, off, none⟩ ∧ w.cell? ⟨b, off + k * 3, none⟩ = some (.int .i64 l[k].1) ∧ w.cell? ⟨b, off + k * 3 + 1, none⟩ = some (.int .i64 l[k].2.1) ∧ w.cell? ⟨b, off + k * 3 + 2, none⟩ = some (.string l[k].2.2) := by
  rcases h with h | ⟨b, off, hA, _, hc⟩
  · have h1 := fl_length l
    rw [h] at h1
    simp at h1
    omega
  · obtain ⟨h0, h1, h2⟩ := fl_get l k hk
    exact ⟨b, off, hA, hc _ _ h0, hc _ _ h1, hc _ _ h2⟩
end Go.Proofs.YtkdpjocglfephaaDoor

/- Plain mathematics of columns, one value behind the other. -/

namespace Go.Proofs.YtkdpjocglfephaaDoor
open Go.RowKit
set_option linter.unusedVariables false

/-- A list of values of type t. -/
def OkL (t : Int) (l : List Val3) : Prop := ∀ x ∈ l, x.1 = t ∧ MayV x.1 x.2.1 x.2.2.size
/-- A value that memory can hold. -/
def In64 (i : Int) : Prop := -9223372036854775808 ≤ i ∧ i ≤ 9223372036854775807

def All64 (l : List Val3) : Prop := ∀ x ∈ l, In64 x.2.1
instance (t i : Int) (n : Nat) : Decidable (MayV t i n) := by unfold MayV; infer_instance
end Go.Proofs.YtkdpjocglfephaaDoor

/- Plain mathematics of columns by runs. -/

namespace Go.Proofs.YtkdpjocglfephaaDoor
open Go.RowKit
set_option linter.unusedVariables false

instance okLDec (t : Int) (l : List Val3) : Decidable (OkL t l) := by unfold OkL; infer_instance
end Go.Proofs.YtkdpjocglfephaaDoor

/- Plain mathematics of columns by steps. -/

namespace Go.Proofs.YtkdpjocglfephaaDoor
open Go.RowKit
set_option linter.unusedVariables false

instance okL_dec (t : Int) (l : List Val3) : Decidable (OkL t l) := by unfold OkL; infer_instance
end Go.Proofs.YtkdpjocglfephaaDoor

/- Plain mathematics of columns of few bits. -/

namespace Go.Proofs.YtkdpjocglfephaaDoor
open Go.RowKit
set_option linter.unusedVariables false

end Go.Proofs.YtkdpjocglfephaaDoor

/- Plain mathematics: bytes read as far as they go. -/

namespace Go.Proofs.YtkdpjocglfephaaDoor
open Go.RowKit
set_option linter.unusedVariables false

end Go.Proofs.YtkdpjocglfephaaDoor

/- How bytes, and values, stand: plain mathematics. -/

namespace Go.Proofs.YtkdpjocglfephaaDoor
open Go.RowKit
set_option linter.unusedVariables false

abbrev cmpS (a b : List UInt8) : Int := Lib.compareBytes a b
theorem cmpS_nil_cons (b : UInt8) (bs : List UInt8) : cmpS [] (b :: bs) = -1 := rfl
theorem cmpS_cons_nil (b : UInt8) (bs : List UInt8) : cmpS (b :: bs) [] = 1 := rfl
theorem cmpS_cons (a b : UInt8) (us bs : List UInt8) : cmpS (a :: us) (b :: bs) = if a.toNat < b.toNat then -1 else if b.toNat < a.toNat then 1 else cmpS us bs := by
  show (if a < b then _ else if b < a then _ else _) = _
  simp only [UInt8.lt_iff_toNat_lt]
theorem cmpS_in : ∀ a b : List UInt8, cmpS a b = -1 ∨ cmpS a b = 0 ∨ cmpS a b = 1
  | [], [] => .inr (.inl rfl)
  | [], _ :: _ => .inl rfl
  | _ :: _, [] => .inr (.inr rfl)
  | a :: us, b :: bs => by
    rw [cmpS_cons]
    split
    · exact .inl rfl
    · split
      · exact .inr (.inr rfl)
      · exact cmpS_in us bs
theorem cmpS_self : ∀ a : List UInt8, cmpS a a = 0
  | [] => rfl
  | a :: us => by rw [cmpS_cons, if_neg (by omega), if_neg (by omega)]; exact cmpS_self us
theorem cmpS_turn : ∀ a b : List UInt8, cmpS b a = - cmpS a b
  | [], [] => rfl
  | [], _ :: _ => rfl
  | _ :: _, [] => rfl
  | a :: us, b :: bs => by
    rw [cmpS_cons, cmpS_cons]
    have ih := cmpS_turn us bs
    by_cases h : a.toNat < b.toNat
    · simp [h, show ¬ b.toNat < a.toNat by omega]
    · by_cases h' : b.toNat < a.toNat
      · simp [h, h']
      · simp [h, h', ih]
theorem cmpS_zero : ∀ a b : List UInt8, cmpS a b = 0 → a = b
  | [], [] => fun _ => rfl
  | [], _ :: _ => fun h => by cases h
  | _ :: _, [] => fun h => by cases h
  | a :: us, b :: bs => by
    rw [cmpS_cons]
    intro h
    split at h
    · cases h
    · split at h
      · cases h
      · rw [cmpS_zero us bs h, UInt8.toNat_inj.1 (show a.toNat = b.toNat by omega)]
theorem cmpS_trans : ∀ a b c : List UInt8, cmpS a b ≤ 0 → cmpS b c ≤ 0 → cmpS a c ≤ 0 ∧ (cmpS a b < 0 ∨ cmpS b c < 0 → cmpS a c < 0)
  | [], b, [] => fun h1 h2 => by
    cases b with
    | nil => exact ⟨Int.le_refl _, fun h => by rcases h with h | h <;> exact absurd h (by decide)⟩
    | cons x xs => exact absurd h2 (by rw [cmpS_cons_nil]; decide)
  | [], b, c :: cs => fun _ _ => ⟨by rw [cmpS_nil_cons]; decide, fun _ => by rw [cmpS_nil_cons]; decide⟩
  | a :: us, [], c => fun h1 _ => absurd h1 (by rw [cmpS_cons_nil]; decide)
  | a :: us, b :: bs, [] => fun _ h2 => absurd h2 (by rw [cmpS_cons_nil]; decide)
  | a :: us, b :: bs, c :: cs => fun h1 h2 => by
    have ih := cmpS_trans us bs cs
    rw [cmpS_cons] at h1 h2 ⊢
    rw [cmpS_cons a b, cmpS_cons b c]
    by_cases hab : a.toNat < b.toNat
    · by_cases hbc : b.toNat < c.toNat
      · rw [if_pos (show a.toNat < c.toNat by omega)]; exact ⟨by decide, fun _ => by decide⟩
      · rw [if_neg hbc] at h2
        by_cases hcb : c.toNat < b.toNat
        · rw [if_pos hcb] at h2; exact absurd h2 (by decide)
        · rw [if_pos (show a.toNat < c.toNat by omega)]; exact ⟨by decide, fun _ => by decide⟩
    · rw [if_neg hab] at h1 ⊢
      by_cases hba : b.toNat < a.toNat
      · rw [if_pos hba] at h1; exact absurd h1 (by decide)
      · rw [if_neg hba] at h1 ⊢
        by_cases hbc : b.toNat < c.toNat
        · rw [if_pos (show a.toNat < c.toNat by omega)]; exact ⟨by decide, fun _ => by decide⟩
        · rw [if_neg hbc] at h2 ⊢
          by_cases hcb : c.toNat < b.toNat
          · rw [if_pos hcb] at h2; exact absurd h2 (by decide)
          · rw [if_neg hcb] at h2 ⊢
            rw [if_neg (show ¬ a.toNat < c.toNat by omega), if_neg (show ¬ c.toNat < a.toNat by omega)]
            exact ih h1 h2
theorem less_iff : ∀ a b : List UInt8, Op.bytesLess a b = decide (cmpS a b < 0)
  | [], [] => rfl
  | [], _ :: _ => rfl
  | _ :: _, [] => rfl
  | a :: us, b :: bs => by
    rw [cmpS_cons]
    unfold Op.bytesLess
    rw [less_iff us bs, Bool.eq_iff_iff]
    simp only [Bool.or_eq_true, Bool.and_eq_true, decide_eq_true_eq, beq_iff_eq, UInt8.lt_iff_toNat_lt, ← UInt8.toNat_inj]
    by_cases h : a.toNat < b.toNat
    · rw [if_pos h]; simp [h]
    · rw [if_neg h]
      by_cases h' : b.toNat < a.toNat
      · rw [if_pos h']; constructor
        · rintro (h | ⟨h, _⟩) <;> omega
        · intro h; omega
      · rw [if_neg h']; constructor
        · rintro (h | ⟨_, h⟩)
          · omega
          · exact h
        · intro h; exact .inr ⟨by omega, h⟩

/-- -1, 0, 1. -/
def cmpI (a b : Int) : Int := if a < b then -1 else if b < a then 1 else 0
theorem cmpI_lt {a b : Int} (h : a < b) : cmpI a b = -1 := if_pos h
theorem cmpI_gt {a b : Int} (h : b < a) : cmpI a b = 1 := by unfold cmpI; rw [if_neg (by omega), if_pos h]
theorem cmpI_eq {a b : Int} (h : a = b) : cmpI a b = 0 := by unfold cmpI; rw [if_neg (by omega), if_neg (by omega)]
theorem cmpI_in (a b : Int) : (a < b ∧ cmpI a b = -1) ∨ (a = b ∧ cmpI a b = 0) ∨ (b < a ∧ cmpI a b = 1) := by
  rcases Int.lt_trichotomy a b with h | h | h
  · exact .inl ⟨h, cmpI_lt h⟩
  · exact .inr (.inl ⟨h, cmpI_eq h⟩)
  · exact .inr (.inr ⟨h, cmpI_gt h⟩)

def rankV (t : Int) : Int := if t = 0 then 0 else if t = 4 then 2 else 1
theorem rankV_in (t : Int) : (t = 0 ∧ rankV t = 0) ∨ (t = 4 ∧ rankV t = 2) ∨ (t ≠ 0 ∧ t ≠ 4 ∧ rankV t = 1) := by
  unfold rankV
  by_cases h0 : t = 0
  · exact .inl ⟨h0, if_pos h0⟩
  · by_cases h4 : t = 4
    · exact .inr (.inl ⟨h4, by rw [if_neg h0, if_pos h4]⟩)
    · exact .inr (.inr ⟨h0, h4, by rw [if_neg h0, if_neg h4]⟩)

/-- How two values stand. -/
def cmpV (t i : Int) (s : ByteArray) (t' i' : Int) (s' : ByteArray) : Int :=
  if rankV t ≠ rankV t' then cmpI (rankV t) (rankV t') else if rankV t = 0 then 0 else if rankV t = 2 then cmpS s.data.toList s'.data.toList else cmpI i i'
theorem cmpV_far {t i : Int} {s : ByteArray} {t' i' : Int} {s' : ByteArray} (h : rankV t ≠ rankV t') : cmpV t i s t' i' s' = cmpI (rankV t) (rankV t') := if_pos h
theorem cmpV_near {t i : Int} {s : ByteArray} {t' i' : Int} {s' : ByteArray} (h : rankV t = rankV t') : cmpV t i s t' i' s' = if rankV t = 0 then 0 else if rankV t = 2 then cmpS s.data.toList s'.data.toList else cmpI i i' := if_neg (fun k => k h)
theorem cmpV_in (t i : Int) (s : ByteArray) (t' i' : Int) (s' : ByteArray) : cmpV t i s t' i' s' = -1 ∨ cmpV t i s t' i' s' = 0 ∨ cmpV t i s t' i' s' = 1 := by
  unfold cmpV
  split
  · rcases cmpI_in (rankV t) (rankV t') with h | h | h
    · exact .inl h.2
    · exact .inr (.inl h.2)
    · exact .inr (.inr h.2)
  · split
    · exact .inr (.inl rfl)
    · split
      · exact cmpS_in _ _
      · rcases cmpI_in i i' with h | h | h
        · exact .inl h.2
        · exact .inr (.inl h.2)
        · exact .inr (.inr h.2)
theorem cmpI_turn (a b : Int) : cmpI b a = - cmpI a b := by
  rcases cmpI_in a b with h | h | h <;> rcases cmpI_in b a with k | k | k <;> omega
theorem cmpV_turn (t i : Int) (s : ByteArray) (t' i' : Int) (s' : ByteArray) : cmpV t' i' s' t i s = - cmpV t i s t' i' s' := by
  by_cases h : rankV t = rankV t'
  · rw [cmpV_near h, cmpV_near h.symm, ← h]
    split
    · rfl
    · split
      · exact cmpS_turn _ _
      · exact cmpI_turn _ _
  · rw [cmpV_far h, cmpV_far (Ne.symm h)]; exact cmpI_turn _ _
theorem cmpV_self (t i : Int) (s : ByteArray) : cmpV t i s t i s = 0 := by
  rw [cmpV_near rfl]
  split
  · rfl
  · split
    · exact cmpS_self _
    · exact cmpI_eq rfl
theorem cmpV_trans (t i : Int) (s : ByteArray) (t' i' : Int) (s' : ByteArray) (u j : Int) (r : ByteArray) (h1 : cmpV t i s t' i' s' ≤ 0) (h2 : cmpV t' i' s' u j r ≤ 0) :
    cmpV t i s u j r ≤ 0 ∧ (cmpV t i s t' i' s' < 0 ∨ cmpV t' i' s' u j r < 0 → cmpV t i s u j r < 0) := by
  by_cases hab : rankV t = rankV t'
  · by_cases hbc : rankV t' = rankV u
    · have hac := hab.trans hbc
      rw [cmpV_near hab] at h1 ⊢
      rw [cmpV_near hbc, ← hab] at h2 ⊢
      rw [cmpV_near hac]
      by_cases h0 : rankV t = 0
      · simp [h0]
      · by_cases h5 : rankV t = 2
        · rw [if_neg h0, if_pos h5] at h1 h2 ⊢
          rw [if_neg h0, if_pos h5]
          rw [if_neg h0, if_pos h5]
          exact cmpS_trans _ _ _ h1 h2
        · rw [if_neg h0, if_neg h5] at h1 h2 ⊢
          rw [if_neg h0, if_neg h5]
          rw [if_neg h0, if_neg h5]
          rcases cmpI_in i i' with h | h | h <;> rcases cmpI_in i' j with k | k | k <;> rcases cmpI_in i j with l | l | l <;> omega
    · have hac : rankV t ≠ rankV u := by rw [hab]; exact hbc
      rw [cmpV_far hbc] at h2 ⊢
      rw [cmpV_far hac, hab]
      exact ⟨h2, fun _ => by rcases cmpI_in (rankV t') (rankV u) with h | h | h <;> omega⟩
  · rw [cmpV_far hab] at h1 ⊢
    have hlt : rankV t < rankV t' := by rcases cmpI_in (rankV t) (rankV t') with h | h | h <;> omega
    by_cases hbc : rankV t' = rankV u
    · have hac : rankV t ≠ rankV u := by rw [← hbc]; exact hab
      rw [cmpV_far hac, ← hbc, cmpI_lt hlt]
      exact ⟨by decide, fun _ => by decide⟩
    · rw [cmpV_far hbc] at h2
      have hlt2 : rankV t' < rankV u := by rcases cmpI_in (rankV t') (rankV u) with h | h | h <;> omega
      rw [cmpV_far (by omega), cmpI_lt (show rankV t < rankV u by omega)]
      exact ⟨by decide, fun _ => by decide⟩
end Go.Proofs.YtkdpjocglfephaaDoor

/- How values of one type stand. -/

namespace Go.Proofs.YtkdpjocglfephaaDoor
open Go.RowKit
set_option linter.unusedVariables false

end Go.Proofs.YtkdpjocglfephaaDoor

/- Plain mathematics of columns by a list of their values. -/

namespace Go.Proofs.YtkdpjocglfephaaDoor
open Go.RowKit
set_option linter.unusedVariables false

/-- How two values stand. -/
def cmp3 (x y : Val3) : Int := cmpV x.1 x.2.1 x.2.2 y.1 y.2.1 y.2.2
theorem cmp3_turn (x y : Val3) : cmp3 y x = - cmp3 x y := cmpV_turn _ _ _ _ _ _
theorem cmp3_self (x : Val3) : cmp3 x x = 0 := cmpV_self _ _ _
/-- A value's place among rising ones. -/
def placeOf (d : List Val3) (v : Val3) : Nat := d.countP fun y => decide (cmp3 y v < 0)
def places (d l : List Val3) : List Nat := l.map (placeOf d)
end Go.Proofs.YtkdpjocglfephaaDoor

/- Slices of values that came in. -/

namespace Go.Proofs.YtkdpjocglfephaaDoor
open Go.RowKit
set_option linter.unusedVariables false

end Go.Proofs.YtkdpjocglfephaaDoor









/- Package cell: Type, Count, All; fault.At; the six sentinels. -/

/- Walks of package cell: Type, Count. -/

namespace Go.Proofs.YtkdpjocglfephaaDoor
open Go.RowKit
set_option linter.unusedVariables false

/-- The sentinel in global g. -/
def CSent (w : World) (g : Nat) : Prop := ∃ a : Addr, w.cell? ⟨g, 0, none⟩ = some (.iface 184 (.pointer (some a)))
theorem CSent.later {w w' : World} {g : Nat} (h : CSent w g) (l : Later w w') : CSent w' g := h.elim fun a h => ⟨a, l.cell h⟩
/-- An error of fault.At. -/
def Where (v : Value) : Prop := ∃ p : Addr, v = .iface 144 (.pointer (some p))

end Go.Proofs.YtkdpjocglfephaaDoor

/- Walks of package cell: All. -/

namespace Go.Proofs.YtkdpjocglfephaaDoor
open Go.RowKit
set_option linter.unusedVariables false


end Go.Proofs.YtkdpjocglfephaaDoor

namespace Go.Proofs.YtkdpjocglfephaaDoor
open Go.RowKit
set_option linter.unusedVariables false

abbrev vagg (t i : Int) (s : ByteArray) : Value := .agg #[.int .i64 t, .int .i64 i, .string s]
/-- A call that gives bytes of its own. -/
def Gives (l : List Nat) (w : World) (e : Ending) (w' : World) : Prop :=
  ∃ A c, e = .returned (.slice A l.length c) ∧ Has w' A (ints .u8 l) ∧ l.length ≤ c ∧ c ≤ 9223372036854775807 ∧ (A = none → c = 0) ∧ Later w w'
theorem own_capmax {w : World} {base : Nat} {e : TypeId} {A : Option Addr} {c : Nat} {n : Nat} {xs : List Value} (h : w.ownsRow base e 1 (.slice A n c) n xs) : c ≤ 9223372036854775807 := by
  rcases h.2 with ⟨h1, rfl⟩ | ⟨g, cap, cur, h1, _, _, _, h2, _⟩
  · injection h1 with _ _ h1; omega
  · injection h1 with _ _ h1
    unfold maxLen at h2
    omega
theorem Makes.gives {l : List Nat} {w : World} {e : Ending} {w' : World} (h : Makes l w e w') : Gives l w e w' := by
  obtain ⟨A, c, rfl, ho, hb, hn⟩ := h
  exact ⟨A, c, rfl, Has.own ho, own_cap ho, own_capmax ho, hn, hb⟩

theorem conv_str (A : Option Addr) (n c : Nat) (l : List Nat) (hn : n = l.length) (w : World) (B : Nat) (hr : Rd w B A (ints .u8 l)) :
    (convert 22 9 (.slice A n c)).run Tryd.prog w = .ok (.string (bstr l)) w :=
  run_bstr 22 5 9 Tryd.underlying22 Tryd.underlying5 Tryd.underlying9 A n c l hn w B hr
theorem three_blk {w : World} {g : Nat} {cs : Array Value} {t : TypeId} (h : Blk w g cs t) (hs : cs.size = 3) (x y z : Value) : Blk (((w.setCell ⟨g, 0, none⟩ x).setCell ⟨g, 1, none⟩ y).setCell ⟨g, 2, none⟩ z) g #[x, y, z] t := by
  have := ((h.set_ 0 x).set_ 1 y).set_ 2 z
  have e : ((cs.setIfInBounds 0 x).setIfInBounds 1 y).setIfInBounds 2 z = #[x, y, z] := by
    match cs, hs with
    | ⟨[a, b, c]⟩, _ => rfl
  rwa [e] at this
end Go.Proofs.YtkdpjocglfephaaDoor

/- Lists that calls give; fault.List; the reference's SameValues. -/

namespace Go.Proofs.YtkdpjocglfephaaDoor
open Go.RowKit
set_option linter.unusedVariables false

instance (t : Int) (l : List Val3) : Decidable (OkL t l) := by unfold OkL; infer_instance
theorem own_later {w w' : World} {base : Nat} {e : TypeId} {k : Nat} {v : Value} {n : Nat} {xs : List Value} (h : w.ownsRow base e k v n xs) (l : Later w w') : w'.ownsRow base e k v n xs := by
  obtain ⟨h1, h2⟩ := h
  refine ⟨h1, ?_⟩
  rcases h2 with h2 | ⟨g, cap, cur, ha, hb, hg, hrest⟩
  · exact .inl h2
  · refine .inr ⟨g, cap, cur, ha, hb, (Below.block l g ?_).trans hg, hrest⟩
    rcases Nat.lt_or_ge g w.heap.size with h' | h'
    · exact h'
    · rw [Array.getElem?_eq_none h'] at hg; cases hg

/-- What a face tells: a list, or a no. -/
def PutsB (o : Option (List Nat)) (w : World) (e : Ending) (w' : World) : Prop :=
  ((o = none ∧ e = .returned (.tuple #[.slice none 0 0, .bool false])) ∨
    ∃ l A c, o = some l ∧ e = .returned (.tuple #[.slice A l.length c, .bool true]) ∧ Has w' A (ints .u8 l) ∧ l.length ≤ c ∧ c ≤ 9223372036854775807 ∧ (A = none → c = 0)) ∧ Later w w'
def PutsV (o : Option (List Val3)) (w : World) (e : Ending) (w' : World) : Prop :=
  ((o = none ∧ e = .returned (.tuple #[.slice none 0 0, .bool false])) ∨
    ∃ l A c, o = some l ∧ e = .returned (.tuple #[.slice A l.length c, .bool true]) ∧ Has w' A (fl l)) ∧ Later w w'
theorem PutsB.no {o : Option (List Nat)} {w w' : World} {e : Ending} (h : PutsB o w e w') (hn : o = none) : e = .returned (.tuple #[.slice none 0 0, .bool false]) ∧ Later w w' := by
  obtain ⟨⟨_, h⟩ | ⟨l, A, c, h, _⟩, L⟩ := h
  · exact ⟨h, L⟩
  · rw [hn] at h; cases h
theorem PutsB.yes {o : Option (List Nat)} {w w' : World} {e : Ending} {l : List Nat} (h : PutsB o w e w') (hs : o = some l) : ∃ A c, e = .returned (.tuple #[.slice A l.length c, .bool true]) ∧ Has w' A (ints .u8 l) ∧ l.length ≤ c ∧ c ≤ 9223372036854775807 ∧ (A = none → c = 0) ∧ Later w w' := by
  obtain ⟨⟨h, _⟩ | ⟨l', A, c, h, h1, h2, h3, h4, h5⟩, L⟩ := h
  · rw [hs] at h; cases h
  · rw [hs] at h; cases h; exact ⟨A, c, h1, h2, h3, h4, h5, L⟩
theorem PutsV.no {o : Option (List Val3)} {w w' : World} {e : Ending} (h : PutsV o w e w') (hn : o = none) : e = .returned (.tuple #[.slice none 0 0, .bool false]) ∧ Later w w' := by
  obtain ⟨⟨_, h⟩ | ⟨l, A, c, h, _⟩, L⟩ := h
  · exact ⟨h, L⟩
  · rw [hn] at h; cases h
theorem PutsV.yes {o : Option (List Val3)} {w w' : World} {e : Ending} {l : List Val3} (h : PutsV o w e w') (hs : o = some l) : ∃ A c, e = .returned (.tuple #[.slice A l.length c, .bool true]) ∧ Has w' A (fl l) ∧ Later w w' := by
  obtain ⟨⟨h, _⟩ | ⟨l', A, c, h, h1, h2⟩, L⟩ := h
  · rw [hs] at h; cases h
  · rw [hs] at h; cases h; exact ⟨A, c, h1, h2, L⟩

theorem info_v : (Tryd.prog.info? 26).map (fun i => (i.zero, i.size, i.bytes)) = some (some (vagg 0 0 ⟨#[]⟩), 3, 32) := by kernel_rfl
theorem Blk.has {w : World} {g : Nat} {cs : List Value} {t : TypeId} (h : Blk w g cs.toArray t) : Has w (some ⟨g, 0, none⟩) cs :=
  .inr ⟨g, 0, rfl, h.lt, fun k v hv => by rw [Nat.zero_add]; exact h.cell k v (by simpa using hv)⟩
theorem bytes_ne {a b : ByteArray} (h : a ≠ b) : (a.toList == b.toList) = false := by
  rw [beq_eq_false_iff_ne, Lib.toList_data, Lib.toList_data]
  intro e
  apply h
  cases a; cases b
  congr 1
  exact Array.ext' e
def TellsP (p : Prop) (w : World) (e : Ending) (w' : World) : Prop := ∃ r : Bool, (r = true ↔ p) ∧ e = .returned (.bool r) ∧ Later w w'
theorem TellsP.yes {p : Prop} (hp : p) {w w' : World} {e : Ending} (h : TellsP p w e w') : e = .returned (.bool true) ∧ Later w w' := by
  obtain ⟨r, hr, rfl, l⟩ := h
  rw [hr.2 hp]; exact ⟨rfl, l⟩
theorem TellsP.no {p : Prop} (hp : ¬ p) {w w' : World} {e : Ending} (h : TellsP p w e w') : e = .returned (.bool false) ∧ Later w w' := by
  obtain ⟨r, hr, rfl, l⟩ := h
  cases r
  · exact ⟨rfl, l⟩
  · exact absurd (hr.1 rfl) hp
theorem TellsP.t {p : Prop} (hp : p) {w w' : World} (l : Later w w') : TellsP p w (.returned (.bool true)) w' := ⟨true, by simp [hp], rfl, l⟩
theorem TellsP.f {p : Prop} (hp : ¬ p) {w w' : World} (l : Later w w') : TellsP p w (.returned (.bool false)) w' := ⟨false, by simp [hp], rfl, l⟩

end Go.Proofs.YtkdpjocglfephaaDoor

/- Package cell: Put. -/

namespace Go.Proofs.YtkdpjocglfephaaDoor
open Go.RowKit
set_option linter.unusedVariables false


end Go.Proofs.YtkdpjocglfephaaDoor

/- Walks of bytes.Equal; of package cell: Same. -/

namespace Go.Proofs.YtkdpjocglfephaaDoor
open Go.RowKit
set_option linter.unusedVariables false

end Go.Proofs.YtkdpjocglfephaaDoor

/- Rows and columns of values in memory; schemas' columns; what appends leave alone. -/

namespace Go.Proofs.YtkdpjocglfephaaDoor
open Go.RowKit
set_option linter.unusedVariables false

/-- The slice holds xs, in a block that is there and is not the block o. -/
def HasX (o : Option Nat) (w : World) (A : Option Addr) (xs : List Value) : Prop :=
  xs = [] ∨ ∃ b off, A = some ⟨b, off, none⟩ ∧ b < w.heap.size ∧ some b ≠ o ∧ ∀ k v, xs[k]? = some v → w.cell? ⟨b, off + k, none⟩ = some v
section
variable {o o' : Option Nat} {w w' : World} {A : Option Addr} {xs : List Value}
theorem HasX.has (h : HasX o w A xs) : Has w A xs := by
  rcases h with h | ⟨b, off, hA, hb, _, hc⟩
  · exact .inl h
  · exact .inr ⟨b, off, hA, hb, hc⟩
theorem HasX.of (h : Has w A xs) : HasX none w A xs := by
  rcases h with h | ⟨b, off, hA, hb, hc⟩
  · exact .inl h
  · exact .inr ⟨b, off, hA, hb, by simp, hc⟩
theorem HasX.later (h : HasX o w A xs) (l : Later w w') : HasX o w' A xs := by
  rcases h with h | ⟨b, off, hA, hb, hn, hc⟩
  · exact .inl h
  · exact .inr ⟨b, off, hA, Nat.lt_of_lt_of_le hb l.size, hn, fun k v hv => l.cell (hc k v hv)⟩
theorem cell_block {b k : Nat} (h : w'.heap[b]? = w.heap[b]?) : w'.cell? ⟨b, k, none⟩ = w.cell? ⟨b, k, none⟩ := World.cell?_of_block (w := w) h
theorem HasX.grown (h : HasX o w A xs) (g : w.grownBy w' o) (ho : o' = o ∨ o' = some w.heap.size) : HasX o' w' A xs := by
  rcases h with h | ⟨b, off, hA, hb, hn, hc⟩
  · exact .inl h
  · refine .inr ⟨b, off, hA, Nat.lt_of_lt_of_le hb g.size, ?_, fun k v hv => ?_⟩
    · rcases ho with rfl | rfl
      · exact hn
      · intro e; injection e with e; omega
    · rw [cell_block (g.block b hb hn)]; exact hc k v hv
/-- What a row of a call's own holds lies in no block that was there ahead of it. -/
theorem HasX.own {base n c size : Nat} {e : TypeId} (h : w.ownsRow base e size (.slice A n c) n xs) (ho : ∀ g, o = some g → g < base) : HasX o w A xs := by
  have h1 : Has w A xs := Has.ownG h
  rcases h1 with h1 | ⟨b, off, hA, hb, hc⟩
  · exact .inl h1
  · refine .inr ⟨b, off, hA, hb, ?_, hc⟩
    rintro rfl
    have h2 := ho b rfl
    have := (h.lt b (by subst hA; rfl)).1
    omega
end

/-- A row (or a column) of values: where it lies, its room, what it is. -/
structure SlV where
  a : Option Addr
  c : Nat
  l : List Val3
instance : Inhabited SlV := ⟨⟨none, 0, []⟩⟩
def SlV.v (s : SlV) : Value := .slice s.a s.l.length s.c
theorem SlV.v_eq (s : SlV) : s.v = .slice s.a s.l.length s.c := rfl
def SlV.okX (o : Option Nat) (w : World) (s : SlV) : Prop := HasX o w s.a (fl s.l) ∧ s.l.length ≤ s.c ∧ s.c ≤ 9223372036854775807 ∧ (s.a = none → s.c = 0)
theorem SlV.okX.later {o : Option Nat} {w w' : World} {s : SlV} (h : s.okX o w) (l : Later w w') : s.okX o w' := ⟨h.1.later l, h.2⟩
theorem SlV.okX.grown {o o' : Option Nat} {w w' : World} {s : SlV} (h : s.okX o w) (g : w.grownBy w' o) (ho : o' = o ∨ o' = some w.heap.size) : s.okX o' w' := ⟨h.1.grown g ho, h.2⟩
theorem SlV.okX.own {o : Option Nat} {w : World} {base n c : Nat} {e : TypeId} {A : Option Addr} {l : List Val3} (h : w.ownsRow base e 3 (.slice A n c) n (fl l)) (hn : n = l.length) (hA : A = none → c = 0) (ho : ∀ g, o = some g → g < base) : (⟨A, c, l⟩ : SlV).okX o w := by
  subst hn
  exact ⟨HasX.own h ho, ownG_cap h, ownG_capmax h, hA⟩
/-- A slice of rows (or of columns). -/
def RowsAt (w : World) (A : Option Addr) (ss : List SlV) : Prop := Has w A (ss.map SlV.v) ∧ ∀ s ∈ ss, s.okX none w
theorem RowsAt.later {w w' : World} {A : Option Addr} {ss : List SlV} (h : RowsAt w A ss) (l : Later w w') : RowsAt w' A ss := ⟨h.1.later l, fun s hs => (h.2 s hs).later l⟩
theorem RowsAt.get {w : World} {A : Option Addr} {ss : List SlV} (h : RowsAt w A ss) (k : Nat) (hk : k < ss.length) :
    ∃ b off, A = some ⟨b, off, none⟩ ∧ w.cell? ⟨b, off + k, none⟩ = some (.slice ss[k].a ss[k].l.length ss[k].c) ∧ Has w ss[k].a (fl ss[k].l) ∧ ss[k].l.length ≤ ss[k].c ∧ ss[k].c ≤ 9223372036854775807 ∧ (ss[k].a = none → ss[k].c = 0) := by
  have ho := h.2 _ (List.getElem_mem hk)
  rcases h.1 with h1 | ⟨b, off, hA, _, hc⟩
  · have h2 : ss = [] := by simpa using h1
    subst h2
    simp at hk
  · refine ⟨b, off, hA, hc k _ ?_, ho.1.has, ho.2⟩
    rw [List.getElem?_map, List.getElem?_eq_getElem hk]; rfl
/-- Rows on their way: the slice of them the call's own, its block none of theirs. -/
def RowsOn (base : Nat) (w : World) (A : Option Addr) (n c : Nat) (ss : List SlV) : Prop :=
  n = ss.length ∧ w.ownsRow base 56 1 (.slice A n c) n (ss.map SlV.v) ∧ (∀ s ∈ ss, s.okX (Value.slice A n c).ownBlock w) ∧ (A = none → c = 0)
theorem RowsOn.later {base : Nat} {w w' : World} {A : Option Addr} {n c : Nat} {ss : List SlV} (h : RowsOn base w A n c ss) (l : Later w w') : RowsOn base w' A n c ss := ⟨h.1, own_later h.2.1 l, fun s hs => (h.2.2.1 s hs).later l, h.2.2.2⟩
theorem HasX.weak {o : Option Nat} {w : World} {A : Option Addr} {xs : List Value} (h : HasX o w A xs) : HasX none w A xs := HasX.of h.has
theorem RowsOn.at_ {base : Nat} {w : World} {A : Option Addr} {n c : Nat} {ss : List SlV} (h : RowsOn base w A n c ss) : RowsAt w A ss ∧ n ≤ c ∧ c ≤ 9223372036854775807 :=
  ⟨⟨Has.own h.2.1, fun s hs => ⟨(h.2.2.1 s hs).1.weak, (h.2.2.1 s hs).2⟩⟩, ownG_cap h.2.1, ownG_capmax h.2.1⟩
theorem RowsOn.nil_ (base : Nat) (w : World) : RowsOn base w none 0 0 [] := ⟨rfl, ownG_nil _ _ _ _, (fun s hs => by cases hs), fun _ => rfl⟩

theorem info_row : (Tryd.prog.info? 56).map (fun i => (i.zero, i.size, i.bytes)) = some (some (.slice none 0 0), 1, 24) := by kernel_rfl

/-- append of a literal's elements onto a row of the call's own; what it leaves alone is told whole. -/
theorem wpList_append_x {P : Program} (w : World) {ops : Array Oper} {rest : List Oper} {o : Oper} {a : Act} {Q : Exit → Act → World → Prop} (hgd : o.guard = none) (s x : Operand) (t : TypeId)
    (ho : o.op = .call { callee := .builtin .append, args := #[s, x], argTypes := #[t, t] })
    (base : Nat) (e : TypeId) (z : Value) (size bytes : Nat) (ht : P.underlying t = some (.slice e)) (hinfo : (P.info? e).map (fun i => (i.zero, i.size, i.bytes)) = some (some z, size, bytes)) (hzs : z.cells.size = size) (hsz0 : 0 < size)
    (v : Value) (n : Nat) (xs : List Value) (hs : a.eval s = v) (hown : w.ownsRow base e size v n xs)
    (b off m c : Nat) (news : List Value) (hx : a.eval x = .slice (some ⟨b, off, none⟩) m c) (hr : Has w (some ⟨b, off, none⟩) news) (hm : news.length = m * size) (h1 : ∀ u ∈ news, u.oneCell' = true)
    (h63 : n + m ≤ maxLen) (hbytes : (n + m) * bytes ≤ 140737488355328) (hbase : base ≤ w.heap.size)
    (h : ∀ A' c' w', w'.ownsRow base e size (.slice A' (n + m) c') (n + m) (xs ++ news) → w.grownBy w' v.ownBlock → Below base w w' → ((Value.slice A' (n + m) c').ownBlock = v.ownBlock ∨ (Value.slice A' (n + m) c').ownBlock = some w.heap.size) → (A' = none → c' = 0) → wpList P ops Q rest (a.put o.dst (.slice A' (n + m) c')) w') : wpList P ops Q (o :: rest) a w := by
  obtain ⟨i, hi, hz, hsz, hby⟩ := info_parts hinfo
  have hcells : ∀ j u, news[j]? = some u → w.cell? ((⟨b, off, none⟩ : Addr).add j) = some u := by
    intro j u hu
    rcases hr with h | ⟨b', off', h, _, hc⟩
    · subst h; simp at hu
    · injection h with h
      injection h with h1 h2
      subst h1 h2
      rw [add_plain]
      exact hc j u hu
  refine wpList_append_own_at w hgd s x t ho base e i z size bytes ht hi hz hsz hby hzs hsz0 v n xs hs hown ⟨b, off, none⟩ m c news hx hm hcells h1 h63 hbytes hbase fun v' w' h2 h3 _ hat => ?_
  obtain ⟨A', c', hv, hc'⟩ := ownG_shape h2
  subst hv
  exact h A' c' w' h2 h3 ((Below.refl _ _).grown h3 hbase fun k hk => (hown.lt k hk).1) hat hc'

/-- A row more. -/
theorem RowsOn.more {base : Nat} {w w' : World} {A A' : Option Addr} {n c c' : Nat} {ss : List SlV} {s : SlV} (h : RowsOn base w A n c ss)
    (hs : s.okX (Value.slice A n c).ownBlock w) (ho : w'.ownsRow base 56 1 (.slice A' (n + 1) c') (n + 1) (ss.map SlV.v ++ [s.v])) (g : w.grownBy w' (Value.slice A n c).ownBlock) (hat : (Value.slice A' (n + 1) c').ownBlock = (Value.slice A n c).ownBlock ∨ (Value.slice A' (n + 1) c').ownBlock = some w.heap.size) (hn : A' = none → c' = 0) : RowsOn base w' A' (n + 1) c' (ss ++ [s]) := by
  refine ⟨by rw [List.length_append, ← h.1]; rfl, ?_, fun x hx => ?_, hn⟩
  · rw [List.map_append]; exact ho
  · rcases List.mem_append.1 hx with hx | hx
    · exact (h.2.2.1 x hx).grown g hat
    · rw [List.mem_singleton] at hx; subst hx; exact hs.grown g hat

/-- A column of a schema: its ID, name, type. -/
abbrev Col3 := Int × ByteArray × Int
abbrev cagg (x : Int) (s : ByteArray) (t : Int) : Value := .agg #[.int .i64 x, .string s, .int .i64 t]
def fc (l : List Col3) : List Value := l.flatMap fun x => [.int .i64 x.1, .string x.2.1, .int .i64 x.2.2]
theorem fc_append (a b : List Col3) : fc (a ++ b) = fc a ++ fc b := List.flatMap_append
theorem fc_length : ∀ l : List Col3, (fc l).length = l.length * 3
  | [] => rfl
  | x :: r => by
    have := fc_length r
    show ([_, _, _] ++ fc r).length = _
    rw [List.length_append, this, List.length_cons]
    simp; omega
theorem fc_get : ∀ (l : List Col3) (k : Nat) (h : k < l.length), (fc l)[k * 3]? = some (.int .i64 l[k].1) ∧ (fc l)[k * 3 + 1]? = some (.string l[k].2.1) ∧ (fc l)[k * 3 + 2]? = some (.int .i64 l[k].2.2)
  | x :: r, 0, _ => ⟨rfl, rfl, rfl⟩
  | x :: r, k + 1, h => by
    have ih := fc_get r k (by simpa using h)
    rw [show (k + 1) * 3 = k * 3 + 3 by omega, show k * 3 + 3 + 1 = k * 3 + 1 + 3 by omega, show k * 3 + 3 + 2 = k * 3 + 2 + 3 by omega]
    exact ih
theorem fc_one (l : List Col3) : ∀ u ∈ fc l, u.oneCell' = true := by
  intro u hu
  obtain ⟨x, _, hx⟩ := List.mem_flatMap.1 hu
  simp only [List.mem_cons, List.not_mem_nil, or_false] at hx
  rcases hx with rfl | rfl | rfl <;> rfl
theorem Has.col3 {w : World} {A : Option Addr} {l : List Col3} (h : Has w A (fc l)) (k : Nat) (hk : k < l.length) :
    ∃ b off, A = some ⟨b, off, none⟩ ∧ w.cell? ⟨b, off + k * 3, none⟩ = some (.int .i64 l[k].1) ∧ w.cell? ⟨b, off + k * 3 + 1, none⟩ = some (.string l[k].2.1) ∧ w.cell? ⟨b, off + k * 3 + 2, none⟩ = some (.int .i64 l[k].2.2) := by
  rcases h with h | ⟨b, off, hA, _, hc⟩
  · have h1 := fc_length l
    rw [h] at h1
    simp at h1
    omega
  · obtain ⟨h0, h1, h2⟩ := fc_get l k hk
    exact ⟨b, off, hA, hc _ _ h0, hc _ _ h1, hc _ _ h2⟩
/-- The place of the first column of that name. -/
def findC (l : List Col3) (nm : ByteArray) : Option Nat := l.findIdx? fun x => decide (x.2.1 = nm)
theorem firstAt {l : List Col3} {p : Col3 → Bool} {k : Nat} (hk : k < l.length) (h : p l[k] = true) (hb : ∀ i (hi : i < l.length), i < k → p l[i] = false) : l.findIdx? p = some k := by
  rw [List.findIdx?_eq_some_iff_getElem]
  exact ⟨hk, h, fun j hj => by simpa using hb j (by omega) hj⟩
theorem firstNo {l : List Col3} {p : Col3 → Bool} (hb : ∀ i (hi : i < l.length), p l[i] = false) : l.findIdx? p = none := by
  rw [List.findIdx?_eq_none_iff]
  intro x hx
  obtain ⟨i, hi, rfl⟩ := List.getElem_of_mem hx
  exact hb i hi
theorem findC_lt {l : List Col3} {nm : ByteArray} {k : Nat} (h : findC l nm = some k) : ∃ hk : k < l.length, l[k].2.1 = nm := by
  unfold findC at h
  rw [List.findIdx?_eq_some_iff_getElem] at h
  obtain ⟨hk, h1, _⟩ := h
  exact ⟨hk, by simpa using h1⟩
end Go.Proofs.YtkdpjocglfephaaDoor
