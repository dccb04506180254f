/- Slices of values that came in. -/
import Derived.Test.YtfcedbhmbcbiaaaGreatDoorBase
import Derived.Test.YtfcedbhmbcbiaaaGreatDoorPlainMath
import Derived.Deep.SlicePairs
import Derived.ChangeArms
namespace Go.Proofs.YtfcedbhmbcbiaaaGreatDoor
open Go.RowKit
set_option linter.unusedVariables false

/-- A slice of values that came in. -/
def IsVals (w : World) (a : Option Addr) (len cap : Nat) (l : List Val3) : Prop :=
  l.length = len ∧ Has w a (fl l) ∧ All64 l ∧ (a = none → cap = 0) ∧ len ≤ cap ∧ cap ≤ maxLen
theorem fl_has {w : World} {b off : Nat} : ∀ (m : Nat) (q : Nat → Val3), (∀ i, i < m → w.cell? ⟨b, off + i * 3, none⟩ = some (.int .i64 (q i).1) ∧ w.cell? ⟨b, off + i * 3 + 1, none⟩ = some (.int .i64 (q i).2.1) ∧ w.cell? ⟨b, off + i * 3 + 2, none⟩ = some (.string (q i).2.2)) →
    ∀ k v, (fl ((List.range m).map q))[k]? = some v → w.cell? ⟨b, off + k, none⟩ = some v := by
  intro m q h k v hv
  have hk : k < m * 3 := by
    have := (List.getElem?_eq_some_iff.1 hv).1
    rw [fl_length, List.length_map, List.length_range] at this
    exact this
  have hi : k / 3 < m := by omega
  have hq : ((List.range m).map q)[k / 3]'(by simpa using hi) = q (k / 3) := by simp
  obtain ⟨g0, g1, g2⟩ := fl_get ((List.range m).map q) (k / 3) (by simpa using hi)
  rw [hq] at g0 g1 g2
  obtain ⟨c0, c1, c2⟩ := h (k / 3) hi
  obtain h3 | h3 | h3 : k = k / 3 * 3 ∨ k = k / 3 * 3 + 1 ∨ k = k / 3 * 3 + 2 := by omega
  · rw [h3] at hv ⊢
    rw [g0] at hv; rw [← hv]; exact c0
  · rw [h3] at hv ⊢
    rw [g1] at hv; rw [← hv, ← Nat.add_assoc]; exact c1
  · rw [h3] at hv ⊢
    rw [g2] at hv; rw [← hv, ← Nat.add_assoc]; exact c2
theorem open_vals {P : Program} {H : Type} {enc : TypeId × Value → H} {w : World} {t e : TypeId} {f0 f1 f2 : Field} {fuel : Nat} {a : Option Addr} {len cap : Nat} {x : DataW H × List MemPlace} (ht : P.underlying t = some (.slice e)) (he : P.underlying e = some (.struct #[f0, f1, f2])) (ce : P.cellsOf e = 3)
    (o0 : f0.offset = 0) (o1 : f1.offset = 1) (o2 : f2.offset = 2) (c0 : P.cellsOf f0.type = 1) (c1 : P.cellsOf f1.type = 1) (c2 : P.cellsOf f2.type = 1)
    (u0 : P.underlying f0.type = some (.int .i64)) (u1 : P.underlying f1.type = some (.int .i64)) (u2 : P.underlying f2.type = some .string)
    (h : DataW.trod enc P w 0 (fun _ => true) true fuel t (Value.slice a len cap).cells.toList = some x) : ∃ l, IsVals w a len cap l := by
  rcases Deep.open_slice ht h with ⟨hcs, _⟩ | ⟨a', len', cap', m, n, D, Pl, hcs, _, hl, hm, hmm, _, hx⟩
  · simp [Value.cells] at hcs
    obtain ⟨rfl, rfl, rfl⟩ := hcs
    exact ⟨[], rfl, .inl rfl, (fun x hx => by cases hx), fun _ => rfl, Nat.le_refl _, by decide⟩
  · simp [Value.cells] at hcs
    obtain ⟨rfl, rfl, rfl⟩ := hcs
    simp only [if_true] at hmm
    subst hmm
    have each : ∀ i, i < m → ∃ q : Val3, w.cell? (a'.add (i * 3)) = some (.int .i64 q.1) ∧ w.cell? (a'.add (i * 3 + 1)) = some (.int .i64 q.2.1) ∧ w.cell? (a'.add (i * 3 + 2)) = some (.string q.2.2) ∧ In64 q.2.1 := by
      intro i hi
      obtain ⟨cs', h1, h2⟩ := hx i hi
      rw [ce] at h1
      obtain ⟨_, hlen, hcell⟩ := World.cells?_some h1
      obtain ⟨xs, k, hk, hxy, _, hxl, hf⟩ := DataW.trod_struct he h2
      match xs, hxl, cs', hlen with
      | [y0, y1, y2], _, [v0, v1, v2], _ =>
        have g0 := hf 0 f0 rfl
        have g1 := hf 1 f1 rfl
        have g2 := hf 2 f2 rfl
        simp [o0, o1, o2, c0, c1, c2] at g0 g1 g2
        obtain ⟨z0, hz0, _, hw0⟩ := DataW.trod_int u0 g0
        obtain ⟨z1, hz1, _, hw1⟩ := DataW.trod_int u1 g1
        obtain ⟨z2, hz2, _, _⟩ := DataW.trod_string u2 g2
        have e0 := hcell 0 (by omega)
        have e1 := hcell 1 (by omega)
        have e2 := hcell 2 (by omega)
        rw [Deep.add_add] at e0 e1 e2
        have v0e : v0 = .int .i64 z0 := by simpa using hz0
        have v1e : v1 = .int .i64 z1 := by simpa using hz1
        have v2e : v2 = .string z2 := by simpa using hz2
        refine ⟨(z0, z1, z2), ?_, ?_, ?_, wf_i64 z1 hw1⟩
        · simpa [v0e] using e0
        · simpa [v1e] using e1
        · simpa [v2e] using e2
    obtain ⟨q, hq⟩ := Deep.choose_lt each
    refine ⟨(List.range len).map q, by simp, ?_, ?_, (fun h => by cases h), hl, hm⟩
    · by_cases h0 : len = 0
      · subst h0; exact .inl rfl
      · obtain ⟨b, off, spot⟩ := a'
        have hspot : spot = none := by simpa [Addr.add] using World.cell?_spot (hq 0 (by omega)).1
        subst hspot
        refine .inr ⟨b, off, rfl, block_lt_of_cell (hq 0 (by omega)).1, ?_⟩
        refine fl_has len q fun i hi => ?_
        obtain ⟨q0, q1, q2, _⟩ := hq i (by omega)
        rw [add_plain] at q0 q1 q2
        exact ⟨q0, by rw [Nat.add_assoc]; exact q1, by rw [Nat.add_assoc]; exact q2⟩
    · intro x hx
      obtain ⟨i, hi, rfl⟩ := List.mem_map.1 hx
      exact (hq i (by have := List.mem_range.1 hi; omega)).2.2.2
end Go.Proofs.YtfcedbhmbcbiaaaGreatDoor
