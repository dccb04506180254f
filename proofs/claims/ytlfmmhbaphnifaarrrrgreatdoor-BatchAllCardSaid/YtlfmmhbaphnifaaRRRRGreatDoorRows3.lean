/- Slices of rows that came in. -/
import Derived.Test.YtlfmmhbaphnifaaRRRRGreatDoorRowsM
namespace Go.Proofs.YtlfmmhbaphnifaaRRRRGreatDoor
open Go.RowKit
set_option linter.unusedVariables false

/-- A slice of slices of values that came in. -/
def IsRows (w : World) (a : Option Addr) (len cap : Nat) (ss : List SlV) : Prop :=
  ss.length = len ∧ RowsAt w a ss ∧ (a = none → cap = 0) ∧ len ≤ cap ∧ cap ≤ maxLen
theorem open_vslice {P : Program} {H : Type} {enc : TypeId × Value → H} {w : World} {t e : TypeId} {f0 f1 f2 : Field} {fuel : Nat} {v : Value} {x : DataW H × List MemPlace} (ht : P.underlying t = some (.slice e)) (he : P.underlying e = some (.struct #[f0, f1, f2])) (ce : P.cellsOf e = 3)
    (o0 : f0.offset = 0) (o1 : f1.offset = 1) (o2 : f2.offset = 2) (c0 : P.cellsOf f0.type = 1) (c1 : P.cellsOf f1.type = 1) (c2 : P.cellsOf f2.type = 1)
    (u0 : P.underlying f0.type = some (.int .i64)) (u1 : P.underlying f1.type = some (.int .i64)) (u2 : P.underlying f2.type = some .string)
    (h : DataW.trod enc P w 0 (fun _ => true) true fuel t [v] = some x) : ∃ s : SlV, v = s.v ∧ s.okX none w ∧ All64 s.l := by
  have key : ∀ (a : Option Addr) (n c : Nat), v = .slice a n c → ∃ s : SlV, v = s.v ∧ s.okX none w ∧ All64 s.l := fun a n c e => by
    subst e
    obtain ⟨l, h1, h2, h3, h4, h5, h6⟩ := open_vals (a := a) (len := n) (cap := c) ht he ce o0 o1 o2 c0 c1 c2 u0 u1 u2 h
    exact ⟨⟨a, c, l⟩, by rw [SlV.v_eq]; dsimp only; rw [h1], ⟨HasX.of h2, by dsimp only; omega, by unfold maxLen at h6; dsimp only; omega, h4⟩, h3⟩
  rcases Deep.open_slice ht h with ⟨hcs, _⟩ | ⟨a', len', cap', m, n, D, Pl, hcs, _⟩
  · injection hcs with hcs _
    exact key _ _ _ hcs
  · injection hcs with hcs _
    exact key _ _ _ hcs
theorem open_rows {P : Program} {H : Type} {enc : TypeId × Value → H} {w : World} {t er e : TypeId} {f0 f1 f2 : Field} {fuel : Nat} {a : Option Addr} {len cap : Nat} {x : DataW H × List MemPlace} (ht : P.underlying t = some (.slice er)) (hr : P.underlying er = some (.slice e)) (cr : P.cellsOf er = 1) (he : P.underlying e = some (.struct #[f0, f1, f2])) (ce : P.cellsOf e = 3)
    (o0 : f0.offset = 0) (o1 : f1.offset = 1) (o2 : f2.offset = 2) (c0 : P.cellsOf f0.type = 1) (c1 : P.cellsOf f1.type = 1) (c2 : P.cellsOf f2.type = 1)
    (u0 : P.underlying f0.type = some (.int .i64)) (u1 : P.underlying f1.type = some (.int .i64)) (u2 : P.underlying f2.type = some .string)
    (h : DataW.trod enc P w 0 (fun _ => true) true fuel t (Value.slice a len cap).cells.toList = some x) : ∃ l, IsRows w a len cap l := by
  rcases Deep.open_slice ht h with ⟨hcs, _⟩ | ⟨a', len', cap', m, n, D, Pl, hcs, _, hl, hm, hmm, _, hx⟩
  · simp [Value.cells] at hcs
    obtain ⟨rfl, rfl, rfl⟩ := hcs
    exact ⟨[], rfl, ⟨.inl rfl, fun s hs => by cases hs⟩, fun _ => rfl, Nat.le_refl _, by decide⟩
  · simp [Value.cells] at hcs
    obtain ⟨rfl, rfl, rfl⟩ := hcs
    simp only [if_true] at hmm
    subst hmm
    have each : ∀ i, i < m → ∃ q : SlV, w.cell? (a'.add i) = some q.v ∧ q.okX none w := by
      intro i hi
      obtain ⟨cs', h1, h2⟩ := hx i hi
      rw [cr] at h1
      obtain ⟨_, hlen, hcell⟩ := World.cells?_some h1
      match cs', hlen with
      | [v0], _ =>
        obtain ⟨s, hs, ok, _⟩ := open_vslice hr he ce o0 o1 o2 c0 c1 c2 u0 u1 u2 h2
        have e0 := hcell 0 (by omega)
        rw [Deep.add_add] at e0
        refine ⟨s, ?_, ok⟩
        subst hs
        simpa using e0
    obtain ⟨q, hq⟩ := Deep.choose_lt each
    refine ⟨(List.range len).map q, by simp, ⟨?_, ?_⟩, (fun h => by cases h), hl, hm⟩
    · by_cases h0 : len = 0
      · subst h0; exact .inl rfl
      · obtain ⟨b, off, spot⟩ := a'
        have hspot : spot = none := by simpa [Addr.add] using World.cell?_spot (hq 0 (by omega)).1
        subst hspot
        refine .inr ⟨b, off, rfl, block_lt_of_cell (hq 0 (by omega)).1, fun k v hv => ?_⟩
        have hk : k < len := by
          have := (List.getElem?_eq_some_iff.1 hv).1
          simpa using this
        have := (hq k (by omega)).1
        rw [add_plain] at this
        rw [this, ← hv]
        simp [hk]
    · intro s hs
      obtain ⟨i, hi, rfl⟩ := List.mem_map.1 hs
      exact (hq i (by have := List.mem_range.1 hi; omega)).2
end Go.Proofs.YtlfmmhbaphnifaaRRRRGreatDoor
