/- Words on memory, more: a literal of numbers; a slice of numbers that came in. -/
import Derived.Test.YtifejanbgobngaaDoorWords
namespace Go.Proofs.YtifejanbgobngaaDoor
open Go.RowKit
set_option linter.unusedVariables false

theorem rd_lit (w : World) (t : TypeId) (k : IntKind) (l : List Nat) (B : Nat) (hB : B = w.heap.size + 1) : Rd (w.alloc (.cells (ints k l).toArray t)) B (some ⟨w.heap.size, 0, none⟩) (ints k l) := by
  subst hB
  have h := (Row.lit w t k l).rd
  rwa [show (w.alloc (.cells (ints k l).toArray t)).heap.size = w.heap.size + 1 by simp] at h

theorem add_plain (b off i : Nat) : (⟨b, off, none⟩ : Addr).add i = ⟨b, off + i, none⟩ := by
  rcases Nat.eq_zero_or_pos i with rfl | h
  · simp [Addr.add]
  · have : i ≠ 0 := by omega
    simp [Addr.add, this]
/-- A slice of integers that came in, as the proof's frame tells it: as a list of numbers. -/
theorem of_row {k : IntKind} {hi : Nat} {w : World} {a : Option Addr} {len cap : Nat} {zs : List Int} (hk : ∀ n : Int, (Lit.int k n).wf = true → 0 ≤ n ∧ n < hi)
    (h : (a = none ∧ len = 0 ∧ cap = 0 ∧ zs = []) ∨
      ∃ x, a = some x ∧ len ≤ cap ∧ cap ≤ maxLen ∧ zs.length = cap ∧ (∀ i, i < zs.length → w.cell? (x.add i) = some (.int k (zs.getD i 0))) ∧ ∀ n ∈ zs, (Lit.int k n).wf = true) :
    ∃ l : List Nat, l.length = len ∧ (∀ x ∈ l, x < hi) ∧ Rd w w.heap.size a (ints k l) ∧ len ≤ cap ∧ cap ≤ maxLen := by
  rcases h with ⟨rfl, rfl, rfl, rfl⟩ | ⟨x, rfl, hl, hm, hz, hc, hw⟩
  · exact ⟨[], rfl, by simp, .inl rfl, Nat.le_refl _, by unfold maxLen; omega⟩
  · have hcast : ∀ i (hi' : i < len), zs.getD i 0 = ((zs.getD i 0).toNat : Int) := fun i hi' => by
      have : zs.getD i 0 ∈ zs := by
        rw [List.getD_eq_getElem?_getD, List.getElem?_eq_getElem (by omega), Option.getD_some]
        exact List.getElem_mem _
      have := hk _ (hw _ this)
      omega
    refine ⟨(zs.take len).map Int.toNat, by simp; omega, fun y hy => ?_, ?_, hl, hm⟩
    · obtain ⟨z, hz', rfl⟩ := List.mem_map.1 hy
      have := hk z (hw z (List.mem_of_mem_take hz'))
      omega
    · rcases Nat.eq_zero_or_pos len with rfl | hp
      · left; simp [ints]
      · obtain ⟨b, off, spot⟩ := x
        have h0 := hc 0 (by omega)
        have hspot : spot = none := by simpa [Addr.add] using World.cell?_spot h0
        subst hspot
        have hadd : ∀ i, (⟨b, off, none⟩ : Addr).add i = ⟨b, off + i, none⟩ := add_plain b off
        have hb := block_lt_of_cell h0
        rw [hadd] at hb
        refine .inr ⟨b, off, rfl, hb, fun i v hv => ?_⟩
        have hi' : i < len := by
          have := (List.getElem?_eq_some_iff.1 hv).1
          rw [ints_length, List.length_map, List.length_take] at this
          omega
        have h1 := hc i (by omega)
        rw [hadd] at h1
        rw [h1, hcast i hi']
        rw [ints_get k ((zs.take len).map Int.toNat) i (by rw [List.length_map, List.length_take]; omega)] at hv
        rw [← hv]
        simp [List.getD_eq_getElem?_getD, List.getElem?_eq_getElem (show i < zs.length by omega)]
theorem of_row_nil {k : IntKind} {w : World} {a : Option Addr} {len cap : Nat} {zs : List Int}
    (h : (a = none ∧ len = 0 ∧ cap = 0 ∧ zs = []) ∨
      ∃ x, a = some x ∧ len ≤ cap ∧ cap ≤ maxLen ∧ zs.length = cap ∧ (∀ i, i < zs.length → w.cell? (x.add i) = some (.int k (zs.getD i 0))) ∧ ∀ n ∈ zs, (Lit.int k n).wf = true) : a = none → cap = 0 := by
  rcases h with ⟨rfl, _, h, _⟩ | ⟨x, rfl, _⟩
  · exact fun _ => h
  · intro h; cases h
theorem wf_u64 (n : Int) (h : (Lit.int .u64 n).wf = true) : 0 ≤ n ∧ n < (18446744073709551616 : Nat) := by
  simp [Lit.wf, IntKind.min, IntKind.max, IntKind.signed, IntKind.bits] at h
  omega
theorem wf_u8 (n : Int) (h : (Lit.int .u8 n).wf = true) : 0 ≤ n ∧ n < (256 : Nat) := by
  simp [Lit.wf, IntKind.min, IntKind.max, IntKind.signed, IntKind.bits] at h
  omega
theorem wf_i64 (n : Int) (h : (Lit.int .i64 n).wf = true) : -9223372036854775808 ≤ n ∧ n ≤ 9223372036854775807 := by
  simp [Lit.wf, IntKind.min, IntKind.max, IntKind.signed, IntKind.bits] at h
  omega
end Go.Proofs.YtifejanbgobngaaDoor
