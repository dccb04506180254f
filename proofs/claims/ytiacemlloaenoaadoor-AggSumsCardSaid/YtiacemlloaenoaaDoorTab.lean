/- A table of rows that grow: a slice of slices, each the call's own, none beside another. -/
import Derived.Test.YtiacemlloaenoaaDoorRowsM
namespace Go.Proofs.YtiacemlloaenoaaDoor
open Go.RowKit
set_option linter.unusedVariables false

theorem own_apart {w w' : World} {base : Nat} {e : TypeId} {k : Nat} {v : Value} {n : Nat} {xs : List Value} {row : Option Nat} (h : w.ownsRow base e k v n xs) (g : w.grownBy w' row) (hne : ∀ q, v.ownBlock = some q → some q ≠ row) : w'.ownsRow base e k v n xs := by
  obtain ⟨h1, h2⟩ := h
  refine ⟨h1, ?_⟩
  rcases h2 with h2 | ⟨q, cap, cur, rfl, hb, hg, hrest⟩
  · exact .inl h2
  · exact .inr ⟨q, cap, cur, rfl, hb, (g.block q (Array.getElem?_eq_some_iff.1 hg).1 (hne q rfl)).trans hg, hrest⟩
theorem own_setFar {w : World} {base : Nat} {e : TypeId} {k : Nat} {v : Value} {n : Nat} {xs : List Value} (h : w.ownsRow base e k v n xs) {p : Addr} (hp : p.block < base) (u : Value) : (w.setCell p u).ownsRow base e k v n xs := by
  obtain ⟨h1, h2⟩ := h
  refine ⟨h1, ?_⟩
  rcases h2 with h2 | ⟨q, cap, cur, rfl, hb, hg, hrest⟩
  · exact .inl h2
  · exact .inr ⟨q, cap, cur, rfl, hb, (Below.heap_setCell w p u q (by omega)).trans hg, hrest⟩

/-- A row: where it lies, how many elements, its room, its cells. -/
structure SlG where
  a : Option Addr
  n : Nat
  c : Nat
  cs : List Value
def SlG.v (s : SlG) : Value := .slice s.a s.n s.c
def SlG.nil : SlG := ⟨none, 0, 0, []⟩
def SlG.ok (base : Nat) (e : TypeId) (size : Nat) (w : World) (s : SlG) : Prop := w.ownsRow base e size s.v s.n s.cs ∧ (s.a = none → s.c = 0)
theorem SlG.ok.nil (base : Nat) (e : TypeId) (size : Nat) (w : World) : SlG.nil.ok base e size w := ⟨ownG_nil _ _ _ _, fun _ => rfl⟩
theorem SlG.ok.later {base : Nat} {e : TypeId} {size : Nat} {w w' : World} {s : SlG} (h : s.ok base e size w) (l : Later w w') : s.ok base e size w' := ⟨own_later h.1 l, h.2⟩

/-- Block g is a table of rows. -/
structure Tab (T e : TypeId) (size : Nat) (w : World) (g : Nat) (ss : List SlG) : Prop where
  blk : Blk w g (ss.map SlG.v).toArray T
  own : ∀ k (h : k < ss.length), ss[k].ok (g + 1) e size w
  apart : ∀ j k (hj : j < ss.length) (hk : k < ss.length), j ≠ k → ∀ q, ss[j].v.ownBlock = some q → ss[k].v.ownBlock ≠ some q
section
variable {T e : TypeId} {size g : Nat} {w w' : World} {ss : List SlG}
theorem Tab.later (h : Tab T e size w g ss) (l : Later w w') : Tab T e size w' g ss := ⟨h.blk.later l, fun k hk => (h.own k hk).later l, h.apart⟩
theorem Tab.lt (h : Tab T e size w g ss) : g < w.heap.size := h.blk.lt
theorem Tab.cell (h : Tab T e size w g ss) (k : Nat) (hk : k < ss.length) : w.cell? ⟨g, k, none⟩ = some (.slice ss[k].a ss[k].n ss[k].c) := h.blk.cell k _ (by
  rw [List.getElem?_toArray, List.getElem?_map, List.getElem?_eq_getElem hk]; rfl)
theorem Tab.frozen (h : Tab T e size w g ss) (k : Nat) : w.frozen? ⟨g, k, none⟩ = false := h.blk.frozen k
theorem Tab.new (w : World) (T e : TypeId) (size n : Nat) (g : Nat) (hg : g = w.heap.size) : Tab T e size (w.alloc (.cells (madeCells #[.slice none 0 0] n) T)) g (List.replicate n SlG.nil) := by
  refine ⟨?_, fun k hk => ?_, fun j k hj hk hne q hq => ?_⟩
  · have e : (madeCells #[Value.slice none 0 0] n) = (List.map SlG.v (List.replicate n SlG.nil)).toArray := by
      apply Array.ext'
      rw [toList_madeCells_one, List.map_replicate]; rfl
    rw [← e]
    exact Blk.new _ _ _ _ hg
  · rw [List.getElem_replicate]; exact SlG.ok.nil _ _ _ _
  · rw [List.getElem_replicate] at hq; cases hq
/-- A row has grown, its slice is laid in its place. -/
theorem Tab.put (h : Tab T e size w g ss) (k : Nat) (hk : k < ss.length) (s' : SlG) (ho : w'.ownsRow (g + 1) e size s'.v s'.n s'.cs) (hnil : s'.a = none → s'.c = 0) (hgr : w.grownBy w' ss[k].v.ownBlock)
    (hat : s'.v.ownBlock = ss[k].v.ownBlock ∨ s'.v.ownBlock = some w.heap.size) : Tab T e size (w'.setCell ⟨g, k, none⟩ s'.v) g (ss.set k s') := by
  have hgk : some g ≠ ss[k].v.ownBlock := by
    intro e
    have := ((h.own k hk).1.lt g e.symm).1
    omega
  refine ⟨?_, fun j hj => ?_, fun i j hi hj hne q hq => ?_⟩
  · have hb : Blk w' g (ss.map SlG.v).toArray T := (hgr.block g h.lt hgk).trans h.blk
    have := hb.set_ k s'.v
    rwa [List.setIfInBounds_toArray, ← List.map_set] at this
  · rw [List.length_set] at hj
    rw [List.getElem_set]
    split
    · exact ⟨own_setFar ho (Nat.lt_succ_self _) _, hnil⟩
    · rename_i hne
      refine ⟨own_setFar (own_apart (h.own j hj).1 hgr fun q hq e => ?_) (Nat.lt_succ_self _) _, (h.own j hj).2⟩
      exact h.apart j k hj hk (fun e => hne e.symm) q hq e.symm
  · rw [List.length_set] at hi hj
    rw [List.getElem_set] at hq ⊢
    split at hq
    · rename_i hik
      subst hik
      rw [if_neg hne]
      rcases hat with hat | hat
      · rw [hat] at hq
        exact h.apart k j hk hj hne q hq
      · rw [hat] at hq
        injection hq with hq
        subst hq
        intro e
        have := ((h.own j hj).1.lt _ e).2
        omega
    · split
      · rename_i hik hjk
        subst hjk
        rcases hat with hat | hat
        · rw [hat]; exact h.apart i k hi hk hne q hq
        · rw [hat]
          intro e
          injection e with e
          subst e
          have := ((h.own i hi).1.lt _ hq).2
          omega
      · exact h.apart i j hi hj hne q hq
theorem Tab.later_put (k : Nat) (l : Below g w w') (v : Value) : Below g w (w'.setCell ⟨g, k, none⟩ v) := l.setCell (Nat.le_refl _) v
/-- A row's cells are a column's. -/
theorem Tab.has (h : Tab T e size w g ss) (k : Nat) (hk : k < ss.length) : Has w ss[k].a ss[k].cs := by
  have := (h.own k hk).1
  unfold SlG.v at this
  exact Has.ownG this
end
/-- Columns out of a table. -/
def SlG.col (s : SlG) (l : List Val3) : SlV := ⟨s.a, s.c, l⟩
theorem Tab.rows {T : TypeId} {g : Nat} {w : World} {ss : List SlG} {L : List (List Val3)} (h : Tab T 40 3 w g ss) (hl : L.length = ss.length) (hL : ∀ k (h : k < ss.length) (h' : k < L.length), ss[k].cs = fl L[k] ∧ ss[k].n = L[k].length) :
    RowsAt w (some ⟨g, 0, none⟩) (List.zipWith SlG.col ss L) ∧ (List.zipWith SlG.col ss L).length = ss.length ∧ (List.zipWith SlG.col ss L).map (·.l) = L := by
  have hlen : (List.zipWith SlG.col ss L).length = ss.length := by rw [List.length_zipWith]; omega
  have hget : ∀ k (h : k < (List.zipWith SlG.col ss L).length), (List.zipWith SlG.col ss L)[k].v = (ss[k]'(by omega)).v := fun k hk => by
    rw [List.getElem_zipWith, SlV.v_eq]
    unfold SlG.v SlG.col
    rw [(hL k (by omega) (by omega)).2]
  refine ⟨⟨?_, fun s hs => ?_⟩, hlen, ?_⟩
  · have hm : (List.zipWith SlG.col ss L).map SlV.v = ss.map SlG.v := by
      refine List.ext_getElem (by rw [List.length_map, List.length_map, hlen]) fun k h1 h2 => ?_
      rw [List.getElem_map, List.getElem_map]
      exact hget k (by rw [List.length_map] at h1; exact h1)
    rw [hm]
    exact Blk.has h.blk
  · obtain ⟨k, hk, rfl⟩ := List.mem_iff_getElem.1 hs
    rw [hlen] at hk
    have hk2 : k < L.length := by omega
    obtain ⟨e1, e2⟩ := hL k hk hk2
    rw [List.getElem_zipWith]
    have ho := h.own k hk
    have ho1 := ho.1
    unfold SlG.v at ho1
    rw [e1, e2] at ho1
    show (⟨ss[k].a, ss[k].c, L[k]⟩ : SlV).okX none w
    exact SlV.okX.own ho1 rfl ho.2 (by simp)
  · refine List.ext_getElem (by rw [List.length_map, hlen]; omega) fun k h1 h2 => ?_
    rw [List.getElem_map, List.getElem_zipWith]; rfl
theorem Tab.rowsV {T : TypeId} {g : Nat} {w : World} {ss : List SlG} {L : List (List Val3)} (h : Tab T 40 3 w g ss) (hl : L.length = ss.length) (hL : ∀ k (h : k < ss.length) (h' : k < L.length), ss[k].cs = fl L[k] ∧ ss[k].n = L[k].length) :
    (List.zipWith SlG.col ss L).map SlV.v = ss.map SlG.v := by
  have hlen : (List.zipWith SlG.col ss L).length = ss.length := by rw [List.length_zipWith]; omega
  refine List.ext_getElem (by rw [List.length_map, List.length_map, hlen]) fun k h1 h2 => ?_
  rw [List.getElem_map, List.getElem_map, List.getElem_zipWith, SlV.v_eq]
  rw [List.length_map] at h1
  unfold SlG.v SlG.col
  rw [(hL k (by omega) (by omega)).2]
end Go.Proofs.YtiacemlloaenoaaDoor
