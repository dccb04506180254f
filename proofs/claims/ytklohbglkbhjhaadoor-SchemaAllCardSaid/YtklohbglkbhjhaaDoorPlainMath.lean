
import Derived.Test.YtklohbglkbhjhaaDoorValA
import Derived.Stop.IfaceNil
import Derived.Test.YtklohbglkbhjhaaDoorBase
import Derived.Test.YtklohbglkbhjhaaDoorNumMath
import Derived.Lib.AppendStr
import Derived.Laws.BitsLemmas
import Derived.Lib.Bytealg
import Derived.Deep.SlicePairs
import Derived.ChangeArms
/- value.May, in a seat that reaches neither value.width nor value.Fits (there: XValB, which has it too; never import both). -/

namespace Go.Proofs.YtklohbglkbhjhaaDoor
open Go.RowKit
set_option linter.unusedVariables false

/-- A call that says whether p, and leaves what was there. -/
def SaysP (p : Prop) (w : World) (e : Ending) (w' : World) : Prop := ∃ r : Bool, (r = true ↔ p) ∧ e = .returned (.bool r) ∧ Below w.heap.size w w'
theorem SaysP.yes {p : Prop} {w w' : World} (h : p) (hb : Below w.heap.size w w') : SaysP p w (.returned (.bool true)) w' := ⟨true, by simp [h], rfl, hb⟩
theorem SaysP.no {p : Prop} {w w' : World} (h : ¬ p) (hb : Below w.heap.size w w') : SaysP p w (.returned (.bool false)) w' := ⟨false, by simp [h], rfl, hb⟩

end Go.Proofs.YtklohbglkbhjhaaDoor

/- Slices of api.Value: three cells an element. -/

namespace Go.Proofs.YtklohbglkbhjhaaDoor
open Go.RowKit
set_option linter.unusedVariables false

/-- A value: its type, its number, its text. -/
abbrev Val3 := Int × Int × ByteArray
def fl (l : List Val3) : List Value := l.flatMap fun x => [.int .i64 x.1, .int .i64 x.2.1, .string x.2.2]
theorem fl_append (a b : List Val3) : fl (a ++ b) = fl a ++ fl b := List.flatMap_append
theorem fl_length : ∀ l : List Val3, (fl l).length = l.length * 3
  | [] => rfl
  | x :: r => by
    have := fl_length r
    show ([_, _, _] ++ fl r).length = _
    rw [List.length_append, this, List.length_cons]
    simp; omega
theorem fl_get : ∀ (l : List Val3) (k : Nat) (h : k < l.length), (fl l)[k * 3]? = some (.int .i64 l[k].1) ∧ (fl l)[k * 3 + 1]? = some (.int .i64 l[k].2.1) ∧ (fl l)[k * 3 + 2]? = some (.string l[k].2.2)
  | x :: r, 0, _ => ⟨rfl, rfl, rfl⟩
  | x :: r, k + 1, h => by
    have ih := fl_get r k (by simpa using h)
    rw [show (k + 1) * 3 = k * 3 + 3 by omega, show k * 3 + 3 + 1 = k * 3 + 1 + 3 by omega, show k * 3 + 3 + 2 = k * 3 + 2 + 3 by omega]
    exact ih
theorem fl_take : ∀ (l : List Val3) (k : Nat), fl (l.take k) = (fl l).take (k * 3)
  | [], k => by simp [fl]
  | x :: r, 0 => by simp [fl]
  | x :: r, k + 1 => by
    have ih := fl_take r k
    rw [show (k + 1) * 3 = k * 3 + 1 + 1 + 1 by omega]
    show [_, _, _] ++ fl (r.take k) = _
    rw [ih]; rfl
theorem fl_drop : ∀ (l : List Val3) (k : Nat), fl (l.drop k) = (fl l).drop (k * 3)
  | [], k => by simp [fl]
  | x :: r, 0 => by simp
  | x :: r, k + 1 => by
    have ih := fl_drop r k
    rw [show (k + 1) * 3 = k * 3 + 1 + 1 + 1 by omega]
    show fl (r.drop k) = ([_, _, _] ++ fl r).drop _
    rw [ih]; rfl
theorem fl_one (l : List Val3) : ∀ u ∈ fl l, u.oneCell' = true := by
  intro u hu
  obtain ⟨x, _, hx⟩ := List.mem_flatMap.1 hu
  simp only [List.mem_cons, List.not_mem_nil, or_false] at hx
  rcases hx with rfl | rfl | rfl <;> rfl
/-- The element k of a slice of values, in memory. -/
theorem Has.val3 {w : World} {A : Option Addr} {l : List Val3} (h : Has w A (fl l)) (k : Nat) (hk : k < l.length) :
    ∃ b off, A = some ⟨b, off, none⟩ ∧ w.cell? ⟨b, off + k * 3, none⟩ = some (.int .i64 l[k].1) ∧ w.cell? ⟨b, off + k * 3 + 1, none⟩ = some (.int .i64 l[k].2.1) ∧ w.cell? ⟨b, off + k * 3 + 2, none⟩ = some (.string l[k].2.2) := by
  rcases h with h | ⟨b, off, hA, _, hc⟩
  · have h1 := fl_length l
    rw [h] at h1
    simp at h1
    omega
  · obtain ⟨h0, h1, h2⟩ := fl_get l k hk
    exact ⟨b, off, hA, hc _ _ h0, hc _ _ h1, hc _ _ h2⟩
end Go.Proofs.YtklohbglkbhjhaaDoor

/- Plain mathematics of columns, one value behind the other. -/

namespace Go.Proofs.YtklohbglkbhjhaaDoor
open Go.RowKit
set_option linter.unusedVariables false

/-- A list of values of type t. -/
def OkL (t : Int) (l : List Val3) : Prop := ∀ x ∈ l, x.1 = t ∧ MayV x.1 x.2.1 x.2.2.size
/-- A value that memory can hold. -/
def In64 (i : Int) : Prop := -9223372036854775808 ≤ i ∧ i ≤ 9223372036854775807

def All64 (l : List Val3) : Prop := ∀ x ∈ l, In64 x.2.1
instance (t i : Int) (n : Nat) : Decidable (MayV t i n) := by unfold MayV; infer_instance
end Go.Proofs.YtklohbglkbhjhaaDoor

/- Plain mathematics of columns by runs. -/

namespace Go.Proofs.YtklohbglkbhjhaaDoor
open Go.RowKit
set_option linter.unusedVariables false

instance okLDec (t : Int) (l : List Val3) : Decidable (OkL t l) := by unfold OkL; infer_instance
end Go.Proofs.YtklohbglkbhjhaaDoor

/- Plain mathematics of columns by steps. -/

namespace Go.Proofs.YtklohbglkbhjhaaDoor
open Go.RowKit
set_option linter.unusedVariables false

instance okL_dec (t : Int) (l : List Val3) : Decidable (OkL t l) := by unfold OkL; infer_instance
end Go.Proofs.YtklohbglkbhjhaaDoor

/- Plain mathematics of columns of few bits. -/

namespace Go.Proofs.YtklohbglkbhjhaaDoor
open Go.RowKit
set_option linter.unusedVariables false

end Go.Proofs.YtklohbglkbhjhaaDoor

/- Plain mathematics: bytes read as far as they go. -/

namespace Go.Proofs.YtklohbglkbhjhaaDoor
open Go.RowKit
set_option linter.unusedVariables false

end Go.Proofs.YtklohbglkbhjhaaDoor

/- How bytes, and values, stand: plain mathematics. -/

namespace Go.Proofs.YtklohbglkbhjhaaDoor
open Go.RowKit
set_option linter.unusedVariables false

abbrev cmpS (a b : List UInt8) : Int := Lib.compareBytes a b
/-- -1, 0, 1. -/
def cmpI (a b : Int) : Int := if a < b then -1 else if b < a then 1 else 0
def rankV (t : Int) : Int := if t = 0 then 0 else if t = 4 then 2 else 1
/-- How two values stand. -/
def cmpV (t i : Int) (s : ByteArray) (t' i' : Int) (s' : ByteArray) : Int :=
  if rankV t ≠ rankV t' then cmpI (rankV t) (rankV t') else if rankV t = 0 then 0 else if rankV t = 2 then cmpS s.data.toList s'.data.toList else cmpI i i'
end Go.Proofs.YtklohbglkbhjhaaDoor

/- How values of one type stand. -/

namespace Go.Proofs.YtklohbglkbhjhaaDoor
open Go.RowKit
set_option linter.unusedVariables false

end Go.Proofs.YtklohbglkbhjhaaDoor

/- Plain mathematics of columns by a list of their values. -/

namespace Go.Proofs.YtklohbglkbhjhaaDoor
open Go.RowKit
set_option linter.unusedVariables false

/-- How two values stand. -/
def cmp3 (x y : Val3) : Int := cmpV x.1 x.2.1 x.2.2 y.1 y.2.1 y.2.2
/-- A value's place among rising ones. -/
def placeOf (d : List Val3) (v : Val3) : Nat := d.countP fun y => decide (cmp3 y v < 0)
def places (d l : List Val3) : List Nat := l.map (placeOf d)
end Go.Proofs.YtklohbglkbhjhaaDoor

/- Slices of values that came in. -/

namespace Go.Proofs.YtklohbglkbhjhaaDoor
open Go.RowKit
set_option linter.unusedVariables false

/-- A slice of values that came in. -/
def IsVals (w : World) (a : Option Addr) (len cap : Nat) (l : List Val3) : Prop :=
  l.length = len ∧ Has w a (fl l) ∧ All64 l ∧ (a = none → cap = 0) ∧ len ≤ cap ∧ cap ≤ maxLen
theorem fl_has {w : World} {b off : Nat} : ∀ (m : Nat) (q : Nat → Val3), (∀ i, i < m → w.cell? ⟨b, off + i * 3, none⟩ = some (.int .i64 (q i).1) ∧ w.cell? ⟨b, off + i * 3 + 1, none⟩ = some (.int .i64 (q i).2.1) ∧ w.cell? ⟨b, off + i * 3 + 2, none⟩ = some (.string (q i).2.2)) →
    ∀ k v, (fl ((List.range m).map q))[k]? = some v → w.cell? ⟨b, off + k, none⟩ = some v := by
  intro m q h k v hv
  have hk : k < m * 3 := by
    have := (List.getElem?_eq_some_iff.1 hv).1
    rw [fl_length, List.length_map, List.length_range] at this
    exact this
  have hi : k / 3 < m := by omega
  have hq : ((List.range m).map q)[k / 3]'(by simpa using hi) = q (k / 3) := by simp
  obtain ⟨g0, g1, g2⟩ := fl_get ((List.range m).map q) (k / 3) (by simpa using hi)
  rw [hq] at g0 g1 g2
  obtain ⟨c0, c1, c2⟩ := h (k / 3) hi
  obtain h3 | h3 | h3 : k = k / 3 * 3 ∨ k = k / 3 * 3 + 1 ∨ k = k / 3 * 3 + 2 := by omega
  · rw [h3] at hv ⊢
    rw [g0] at hv; rw [← hv]; exact c0
  · rw [h3] at hv ⊢
    rw [g1] at hv; rw [← hv, ← Nat.add_assoc]; exact c1
  · rw [h3] at hv ⊢
    rw [g2] at hv; rw [← hv, ← Nat.add_assoc]; exact c2
theorem open_vals {P : Program} {H : Type} {enc : TypeId × Value → H} {w : World} {t e : TypeId} {f0 f1 f2 : Field} {fuel : Nat} {a : Option Addr} {len cap : Nat} {x : DataW H × List MemPlace} (ht : P.underlying t = some (.slice e)) (he : P.underlying e = some (.struct #[f0, f1, f2])) (ce : P.cellsOf e = 3)
    (o0 : f0.offset = 0) (o1 : f1.offset = 1) (o2 : f2.offset = 2) (c0 : P.cellsOf f0.type = 1) (c1 : P.cellsOf f1.type = 1) (c2 : P.cellsOf f2.type = 1)
    (u0 : P.underlying f0.type = some (.int .i64)) (u1 : P.underlying f1.type = some (.int .i64)) (u2 : P.underlying f2.type = some .string)
    (h : DataW.trod enc P w 0 (fun _ => true) true fuel t (Value.slice a len cap).cells.toList = some x) : ∃ l, IsVals w a len cap l := by
  rcases Deep.open_slice ht h with ⟨hcs, _⟩ | ⟨a', len', cap', m, n, D, Pl, hcs, _, hl, hm, hmm, _, hx⟩
  · simp [Value.cells] at hcs
    obtain ⟨rfl, rfl, rfl⟩ := hcs
    exact ⟨[], rfl, .inl rfl, (fun x hx => by cases hx), fun _ => rfl, Nat.le_refl _, by decide⟩
  · simp [Value.cells] at hcs
    obtain ⟨rfl, rfl, rfl⟩ := hcs
    simp only [if_true] at hmm
    subst hmm
    have each : ∀ i, i < m → ∃ q : Val3, w.cell? (a'.add (i * 3)) = some (.int .i64 q.1) ∧ w.cell? (a'.add (i * 3 + 1)) = some (.int .i64 q.2.1) ∧ w.cell? (a'.add (i * 3 + 2)) = some (.string q.2.2) ∧ In64 q.2.1 := by
      intro i hi
      obtain ⟨cs', h1, h2⟩ := hx i hi
      rw [ce] at h1
      obtain ⟨_, hlen, hcell⟩ := World.cells?_some h1
      obtain ⟨xs, k, hk, hxy, _, hxl, hf⟩ := DataW.trod_struct he h2
      match xs, hxl, cs', hlen with
      | [y0, y1, y2], _, [v0, v1, v2], _ =>
        have g0 := hf 0 f0 rfl
        have g1 := hf 1 f1 rfl
        have g2 := hf 2 f2 rfl
        simp [o0, o1, o2, c0, c1, c2] at g0 g1 g2
        obtain ⟨z0, hz0, _, hw0⟩ := DataW.trod_int u0 g0
        obtain ⟨z1, hz1, _, hw1⟩ := DataW.trod_int u1 g1
        obtain ⟨z2, hz2, _, _⟩ := DataW.trod_string u2 g2
        have e0 := hcell 0 (by omega)
        have e1 := hcell 1 (by omega)
        have e2 := hcell 2 (by omega)
        rw [Deep.add_add] at e0 e1 e2
        have v0e : v0 = .int .i64 z0 := by simpa using hz0
        have v1e : v1 = .int .i64 z1 := by simpa using hz1
        have v2e : v2 = .string z2 := by simpa using hz2
        refine ⟨(z0, z1, z2), ?_, ?_, ?_, wf_i64 z1 hw1⟩
        · simpa [v0e] using e0
        · simpa [v1e] using e1
        · simpa [v2e] using e2
    obtain ⟨q, hq⟩ := Deep.choose_lt each
    refine ⟨(List.range len).map q, by simp, ?_, ?_, (fun h => by cases h), hl, hm⟩
    · by_cases h0 : len = 0
      · subst h0; exact .inl rfl
      · obtain ⟨b, off, spot⟩ := a'
        have hspot : spot = none := by simpa [Addr.add] using World.cell?_spot (hq 0 (by omega)).1
        subst hspot
        refine .inr ⟨b, off, rfl, block_lt_of_cell (hq 0 (by omega)).1, ?_⟩
        refine fl_has len q fun i hi => ?_
        obtain ⟨q0, q1, q2, _⟩ := hq i (by omega)
        rw [add_plain] at q0 q1 q2
        exact ⟨q0, by rw [Nat.add_assoc]; exact q1, by rw [Nat.add_assoc]; exact q2⟩
    · intro x hx
      obtain ⟨i, hi, rfl⟩ := List.mem_map.1 hx
      exact (hq i (by have := List.mem_range.1 hi; omega)).2.2.2
end Go.Proofs.YtklohbglkbhjhaaDoor
