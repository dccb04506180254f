
import Derived.Test.YtkdpjocglfephaaDoorCell
import Derived.Test.YtkdpjocglfephaaDoorBase
import Derived.Test.YtkdpjocglfephaaDoorAggB
import Derived.WalkKit
import Derived.Laws.OwnMore
import Derived.Laws.BytesArg
import Derived.Laws.Rows
import Derived.Deep.AppendLies
import Derived.Deep.Draws
import Derived.Test.YtkdpjocglfephaaDoorChecked
import Derived.Deep.OwnRows
import Derived.Lib.Hide
import Derived.Deep.Quiet
import Derived.Laws.AppendOwnNone
import Derived.Lib.Strings
import Derived.Outline
import Derived.WalkLawsBesides
import Derived.WalkSpells
import Derived.PlainAid
import Derived.Deep.QuietTactic
import Derived.BigQuiet
import Derived.RegionTactic
import Derived.BigRegion
import Derived.Handy
import Derived.Laws.BitsAllLaws
import Derived.Deep.RegionWith
import Derived.Lib.AppendStr
import Derived.Deep.RegionLaw
import Derived.Maps.AppendAt
import Derived.OpenShut
import Derived.WideShapes
import Derived.ChangeArms
import Derived.Deep.Slices
import Derived.Sort.Grow
import Derived.LaidEql
import Derived.Stop.Asserts
import Derived.RowKitTokens
import Derived.Laws.BitsLemmas
import Derived.Laws.Bits64
import Derived.WalkSmall
import Derived.Stop.IfaceNil
import Derived.Lib.Bytealg
import Derived.Deep.SlicePairs
import Derived.Laws.Externs
import Derived.Test.YtkdpjocglfephaaDoorShelf
import Derived.Shelf.SlSortCmp.QuietGrown
import Derived.Sort.LotA
/- A table of rows that grow: a slice of slices, each the call's own, none beside another. -/

namespace Go.Proofs.YtkdpjocglfephaaDoor
open Go.RowKit
set_option linter.unusedVariables false

theorem own_apart {w w' : World} {base : Nat} {e : TypeId} {k : Nat} {v : Value} {n : Nat} {xs : List Value} {row : Option Nat} (h : w.ownsRow base e k v n xs) (g : w.grownBy w' row) (hne : ∀ q, v.ownBlock = some q → some q ≠ row) : w'.ownsRow base e k v n xs := by
  obtain ⟨h1, h2⟩ := h
  refine ⟨h1, ?_⟩
  rcases h2 with h2 | ⟨q, cap, cur, rfl, hb, hg, hrest⟩
  · exact .inl h2
  · exact .inr ⟨q, cap, cur, rfl, hb, (g.block q (Array.getElem?_eq_some_iff.1 hg).1 (hne q rfl)).trans hg, hrest⟩
theorem own_setFar {w : World} {base : Nat} {e : TypeId} {k : Nat} {v : Value} {n : Nat} {xs : List Value} (h : w.ownsRow base e k v n xs) {p : Addr} (hp : p.block < base) (u : Value) : (w.setCell p u).ownsRow base e k v n xs := by
  obtain ⟨h1, h2⟩ := h
  refine ⟨h1, ?_⟩
  rcases h2 with h2 | ⟨q, cap, cur, rfl, hb, hg, hrest⟩
  · exact .inl h2
  · exact .inr ⟨q, cap, cur, rfl, hb, (Below.heap_setCell w p u q (by omega)).trans hg, hrest⟩

/-- A row: where it lies, how many elements, its room, its cells. -/
structure SlG where
  a : Option Addr
  n : Nat
  c : Nat
  cs : List Value
def SlG.v (s : SlG) : Value := .slice s.a s.n s.c
def SlG.nil : SlG := ⟨none, 0, 0, []⟩
def SlG.ok (base : Nat) (e : TypeId) (size : Nat) (w : World) (s : SlG) : Prop := w.ownsRow base e size s.v s.n s.cs ∧ (s.a = none → s.c = 0)
theorem SlG.ok.nil (base : Nat) (e : TypeId) (size : Nat) (w : World) : SlG.nil.ok base e size w := ⟨ownG_nil _ _ _ _, fun _ => rfl⟩
theorem SlG.ok.later {base : Nat} {e : TypeId} {size : Nat} {w w' : World} {s : SlG} (h : s.ok base e size w) (l : Later w w') : s.ok base e size w' := ⟨own_later h.1 l, h.2⟩

/-- Block g is a table of rows. -/
structure Tab (T e : TypeId) (size : Nat) (w : World) (g : Nat) (ss : List SlG) : Prop where
  blk : Blk w g (ss.map SlG.v).toArray T
  own : ∀ k (h : k < ss.length), ss[k].ok (g + 1) e size w
  apart : ∀ j k (hj : j < ss.length) (hk : k < ss.length), j ≠ k → ∀ q, ss[j].v.ownBlock = some q → ss[k].v.ownBlock ≠ some q
section
variable {T e : TypeId} {size g : Nat} {w w' : World} {ss : List SlG}
theorem Tab.later (h : Tab T e size w g ss) (l : Later w w') : Tab T e size w' g ss := ⟨h.blk.later l, fun k hk => (h.own k hk).later l, h.apart⟩
theorem Tab.lt (h : Tab T e size w g ss) : g < w.heap.size := h.blk.lt
theorem Tab.cell (h : Tab T e size w g ss) (k : Nat) (hk : k < ss.length) : w.cell? ⟨g, k, none⟩ = some (.slice ss[k].a ss[k].n ss[k].c) := h.blk.cell k _ (by
  rw [List.getElem?_toArray, List.getElem?_map, List.getElem?_eq_getElem hk]; rfl)
theorem Tab.frozen (h : Tab T e size w g ss) (k : Nat) : w.frozen? ⟨g, k, none⟩ = false := h.blk.frozen k
theorem Tab.new (w : World) (T e : TypeId) (size n : Nat) (g : Nat) (hg : g = w.heap.size) : Tab T e size (w.alloc (.cells (madeCells #[.slice none 0 0] n) T)) g (List.replicate n SlG.nil) := by
  refine ⟨?_, fun k hk => ?_, fun j k hj hk hne q hq => ?_⟩
  · have e : (madeCells #[Value.slice none 0 0] n) = (List.map SlG.v (List.replicate n SlG.nil)).toArray := by
      apply Array.ext'
      rw [toList_madeCells_one, List.map_replicate]; rfl
    rw [← e]
    exact Blk.new _ _ _ _ hg
  · rw [List.getElem_replicate]; exact SlG.ok.nil _ _ _ _
  · rw [List.getElem_replicate] at hq; cases hq
/-- A row has grown, its slice is laid in its place. -/
theorem Tab.put (h : Tab T e size w g ss) (k : Nat) (hk : k < ss.length) (s' : SlG) (ho : w'.ownsRow (g + 1) e size s'.v s'.n s'.cs) (hnil : s'.a = none → s'.c = 0) (hgr : w.grownBy w' ss[k].v.ownBlock)
    (hat : s'.v.ownBlock = ss[k].v.ownBlock ∨ s'.v.ownBlock = some w.heap.size) : Tab T e size (w'.setCell ⟨g, k, none⟩ s'.v) g (ss.set k s') := by
  have hgk : some g ≠ ss[k].v.ownBlock := by
    intro e
    have := ((h.own k hk).1.lt g e.symm).1
    omega
  refine ⟨?_, fun j hj => ?_, fun i j hi hj hne q hq => ?_⟩
  · have hb : Blk w' g (ss.map SlG.v).toArray T := (hgr.block g h.lt hgk).trans h.blk
    have := hb.set_ k s'.v
    rwa [List.setIfInBounds_toArray, ← List.map_set] at this
  · rw [List.length_set] at hj
    rw [List.getElem_set]
    split
    · exact ⟨own_setFar ho (Nat.lt_succ_self _) _, hnil⟩
    · rename_i hne
      refine ⟨own_setFar (own_apart (h.own j hj).1 hgr fun q hq e => ?_) (Nat.lt_succ_self _) _, (h.own j hj).2⟩
      exact h.apart j k hj hk (fun e => hne e.symm) q hq e.symm
  · rw [List.length_set] at hi hj
    rw [List.getElem_set] at hq ⊢
    split at hq
    · rename_i hik
      subst hik
      rw [if_neg hne]
      rcases hat with hat | hat
      · rw [hat] at hq
        exact h.apart k j hk hj hne q hq
      · rw [hat] at hq
        injection hq with hq
        subst hq
        intro e
        have := ((h.own j hj).1.lt _ e).2
        omega
    · split
      · rename_i hik hjk
        subst hjk
        rcases hat with hat | hat
        · rw [hat]; exact h.apart i k hi hk hne q hq
        · rw [hat]
          intro e
          injection e with e
          subst e
          have := ((h.own i hi).1.lt _ hq).2
          omega
      · exact h.apart i j hi hj hne q hq
/-- A row's cells are a column's. -/
theorem Tab.has (h : Tab T e size w g ss) (k : Nat) (hk : k < ss.length) : Has w ss[k].a ss[k].cs := by
  have := (h.own k hk).1
  unfold SlG.v at this
  exact Has.ownG this
end
/-- Columns out of a table. -/
def SlG.col (s : SlG) (l : List Val3) : SlV := ⟨s.a, s.c, l⟩
theorem Tab.rows {T : TypeId} {g : Nat} {w : World} {ss : List SlG} {L : List (List Val3)} (h : Tab T 26 3 w g ss) (hl : L.length = ss.length) (hL : ∀ k (h : k < ss.length) (h' : k < L.length), ss[k].cs = fl L[k] ∧ ss[k].n = L[k].length) :
    RowsAt w (some ⟨g, 0, none⟩) (List.zipWith SlG.col ss L) ∧ (List.zipWith SlG.col ss L).length = ss.length ∧ (List.zipWith SlG.col ss L).map (·.l) = L := by
  have hlen : (List.zipWith SlG.col ss L).length = ss.length := by rw [List.length_zipWith]; omega
  have hget : ∀ k (h : k < (List.zipWith SlG.col ss L).length), (List.zipWith SlG.col ss L)[k].v = (ss[k]'(by omega)).v := fun k hk => by
    rw [List.getElem_zipWith, SlV.v_eq]
    unfold SlG.v SlG.col
    rw [(hL k (by omega) (by omega)).2]
  refine ⟨⟨?_, fun s hs => ?_⟩, hlen, ?_⟩
  · have hm : (List.zipWith SlG.col ss L).map SlV.v = ss.map SlG.v := by
      refine List.ext_getElem (by rw [List.length_map, List.length_map, hlen]) fun k h1 h2 => ?_
      rw [List.getElem_map, List.getElem_map]
      exact hget k (by rw [List.length_map] at h1; exact h1)
    rw [hm]
    exact Blk.has h.blk
  · obtain ⟨k, hk, rfl⟩ := List.mem_iff_getElem.1 hs
    rw [hlen] at hk
    have hk2 : k < L.length := by omega
    obtain ⟨e1, e2⟩ := hL k hk hk2
    rw [List.getElem_zipWith]
    have ho := h.own k hk
    have ho1 := ho.1
    unfold SlG.v at ho1
    rw [e1, e2] at ho1
    show (⟨ss[k].a, ss[k].c, L[k]⟩ : SlV).okX none w
    exact SlV.okX.own ho1 rfl ho.2 (by simp)
  · refine List.ext_getElem (by rw [List.length_map, hlen]; omega) fun k h1 h2 => ?_
    rw [List.getElem_map, List.getElem_zipWith]; rfl
theorem Tab.rowsV {T : TypeId} {g : Nat} {w : World} {ss : List SlG} {L : List (List Val3)} (h : Tab T 26 3 w g ss) (hl : L.length = ss.length) (hL : ∀ k (h : k < ss.length) (h' : k < L.length), ss[k].cs = fl L[k] ∧ ss[k].n = L[k].length) :
    (List.zipWith SlG.col ss L).map SlV.v = ss.map SlG.v := by
  have hlen : (List.zipWith SlG.col ss L).length = ss.length := by rw [List.length_zipWith]; omega
  refine List.ext_getElem (by rw [List.length_map, List.length_map, hlen]) fun k h1 h2 => ?_
  rw [List.getElem_map, List.getElem_map, List.getElem_zipWith, SlV.v_eq]
  rw [List.length_map] at h1
  unfold SlG.v SlG.col
  rw [(hL k (by omega) (by omega)).2]
end Go.Proofs.YtkdpjocglfephaaDoor

/- A table of rows of places that grows, and whose last row grows. -/


namespace Go.Proofs.YtkdpjocglfephaaDoor
open Go.RowKit
set_option linter.unusedVariables false

theorem info_is : (Tryd.prog.info? 34).map (fun i => (i.zero, i.size, i.bytes)) = some (some (.slice none 0 0), 1, 24) := by kernel_rfl
theorem info_in : (Tryd.prog.info? 3).map (fun i => (i.zero, i.size, i.bytes)) = some (some (.int .i64 0), 1, 8) := by kernel_rfl
/-- The table. -/
structure GT (base : Nat) (w : World) (A : Option Addr) (n c : Nat) (ss : List SlG) : Prop where
  len : n = ss.length
  own : w.ownsRow base 34 1 (.slice A n c) n (ss.map SlG.v)
  nil : A = none → c = 0
  rows : ∀ k (h : k < ss.length), ss[k].ok base 3 1 w
  apart : ∀ j k (hj : j < ss.length) (hk : k < ss.length), j ≠ k → ∀ q, ss[j].v.ownBlock = some q → ss[k].v.ownBlock ≠ some q
  off : ∀ k (h : k < ss.length) q, ss[k].v.ownBlock = some q → (Value.slice A n c).ownBlock ≠ some q
section
variable {base : Nat} {w w' : World} {A A' : Option Addr} {n c c' : Nat} {ss : List SlG}
theorem GT.nil_ (base : Nat) (w : World) : GT base w none 0 0 [] := ⟨rfl, ownG_nil _ _ _ _, fun _ => rfl, fun k h => by simp at h, fun j k hj => by simp at hj, fun k h => by simp at h⟩
theorem GT.later (h : GT base w A n c ss) (l : Later w w') : GT base w' A n c ss := ⟨h.len, own_later h.own l, h.nil, fun k hk => (h.rows k hk).later l, h.apart, h.off⟩
theorem GT.add (h : GT base w A n c ss) (ho : w'.ownsRow base 34 1 (.slice A' (n + 1) c') (n + 1) (ss.map SlG.v ++ [.slice none 0 0])) (hg : w.grownBy w' (Value.slice A n c).ownBlock) (hat : (Value.slice A' (n + 1) c').ownBlock = (Value.slice A n c).ownBlock ∨ (Value.slice A' (n + 1) c').ownBlock = some w.heap.size) (hn : A' = none → c' = 0) : GT base w' A' (n + 1) c' (ss ++ [SlG.nil]) := by
  refine ⟨by rw [List.length_append, ← h.len]; rfl, by rw [List.map_append]; exact ho, hn, fun k hk => ?_, fun j k hj hk hne q hq => ?_, fun k hk q hq => ?_⟩
  · by_cases hlt : k < ss.length
    · rw [List.getElem_append_left hlt]
      exact ⟨own_apart (h.rows k hlt).1 hg fun q hq e => h.off k hlt q hq e.symm, (h.rows k hlt).2⟩
    · rw [List.getElem_append_right (by omega)]
      simp only [List.getElem_singleton]
      exact SlG.ok.nil _ _ _ _
  · by_cases hlt : j < ss.length
    · rw [List.getElem_append_left hlt] at hq
      by_cases hlk : k < ss.length
      · rw [List.getElem_append_left hlk]; exact h.apart j k hlt hlk hne q hq
      · rw [List.getElem_append_right (by omega)]
        simp only [List.getElem_singleton]
        intro e; cases e
    · rw [List.getElem_append_right (by omega)] at hq
      simp only [List.getElem_singleton] at hq
      cases hq
  · by_cases hlt : k < ss.length
    · rw [List.getElem_append_left hlt] at hq
      rcases hat with hat | hat
      · rw [hat]; exact h.off k hlt q hq
      · rw [hat]
        intro e
        injection e with e
        subst e
        have := ((h.rows k hlt).1.lt _ hq).2
        omega
    · rw [List.getElem_append_right (by omega)] at hq
      simp only [List.getElem_singleton] at hq
      cases hq
theorem own_setOff {w : World} {base : Nat} {e : TypeId} {k : Nat} {v : Value} {n : Nat} {xs : List Value} (h : w.ownsRow base e k v n xs) {p : Addr} (hp : ∀ q, v.ownBlock = some q → p.block ≠ q) (u : Value) : (w.setCell p u).ownsRow base e k v n xs := by
  obtain ⟨h1, h2⟩ := h
  refine ⟨h1, ?_⟩
  rcases h2 with h2 | ⟨q, cap, cur, rfl, hb, hg, hrest⟩
  · exact .inl h2
  · have hne := hp q rfl
    refine .inr ⟨q, cap, cur, rfl, hb, ?_, hrest⟩
    rw [← hg]
    exact (Below.heap_setCell w p u q (fun e => hne e.symm))
theorem GT.put {w1 w2 : World} (h : GT base w A n c ss) (k tb : Nat) (hk : k < ss.length) (hA : A = some ⟨tb, 0, none⟩) (s' : SlG) (l : Later w w1) (ho : w2.ownsRow base 3 1 s'.v s'.n s'.cs) (hnil : s'.a = none → s'.c = 0) (hgr : w1.grownBy w2 ss[k].v.ownBlock)
    (hat : s'.v.ownBlock = ss[k].v.ownBlock ∨ s'.v.ownBlock = some w1.heap.size) : GT base (w2.setCell ⟨tb, k, none⟩ s'.v) A n c (ss.set k s') := by
  subst hA
  have h1 := h.later l
  have htl : tb < w1.heap.size := (h1.own.lt tb rfl).2
  have htk : some tb ≠ ss[k].v.ownBlock := fun e => h.off k hk tb e.symm rfl
  have hown2 : w2.ownsRow base 34 1 (.slice (some ⟨tb, 0, none⟩) n c) n (ss.map SlG.v) := own_apart h1.own hgr fun q hq => by injection hq with hq; subst hq; exact htk
  have hnew : ∀ q, s'.v.ownBlock = some q → tb ≠ q := fun q hq e => by
    subst e
    rcases hat with hat | hat
    · rw [hat] at hq; exact htk hq.symm
    · rw [hat] at hq; injection hq with hq; omega
  refine ⟨by rw [List.length_set]; exact h.len, ?_, h.nil, fun j hj => ?_, fun i j hi hj hne q hq => ?_, fun j hj q hq => ?_⟩
  · rw [List.map_set]; exact (hown2.stored k s'.v).1
  · rw [List.length_set] at hj
    rw [List.getElem_set]
    split
    · exact ⟨own_setOff ho hnew _, hnil⟩
    · rename_i hne
      refine ⟨own_setOff (own_apart (h1.rows j hj).1 hgr fun q hq e => ?_) (fun q hq e => ?_) _, (h.rows j hj).2⟩
      · exact h.apart j k hj hk (fun e => hne e.symm) q hq e.symm
      · exact h.off j hj q hq (by rw [← e]; rfl)
  · rw [List.length_set] at hi hj
    rw [List.getElem_set] at hq ⊢
    split at hq
    · rename_i hik
      subst hik
      rw [if_neg hne]
      rcases hat with hat | hat
      · rw [hat] at hq
        exact h.apart k j hk hj hne q hq
      · rw [hat] at hq
        injection hq with hq
        subst hq
        intro e
        have := ((h1.rows j hj).1.lt _ e).2
        omega
    · split
      · rename_i hik hjk
        subst hjk
        rcases hat with hat | hat
        · rw [hat]; exact h.apart i k hi hk hne q hq
        · rw [hat]
          intro e
          injection e with e
          subst e
          have := ((h1.rows i hi).1.lt _ hq).2
          omega
      · exact h.apart i j hi hj hne q hq
  · rw [List.length_set] at hj
    rw [List.getElem_set] at hq
    intro e
    injection e with e
    subst e
    split at hq
    · exact hnew _ hq rfl
    · exact h.off j hj _ hq rfl
end
/-- What a row is. -/
def rkey (l : List Nat) : List Value × Nat := (pin l, l.length)
def skey (s : SlG) : List Value × Nat := (s.cs, s.n)
/-- The table holds these rows. -/
def GS (base : Nat) (w : World) (A : Option Addr) (n c : Nat) (R : List (List Nat)) : Prop := ∃ ss, GT base w A n c ss ∧ ss.map skey = R.map rkey
theorem GS.nil_ (base : Nat) (w : World) : GS base w none 0 0 [] := ⟨[], GT.nil_ _ _, rfl⟩
theorem GS.later {base : Nat} {w w' : World} {A : Option Addr} {n c : Nat} {R : List (List Nat)} (h : GS base w A n c R) (l : Later w w') : GS base w' A n c R := by
  obtain ⟨ss, h1, h2⟩ := h; exact ⟨ss, h1.later l, h2⟩
theorem GS.len {base : Nat} {w : World} {A : Option Addr} {n c : Nat} {R : List (List Nat)} (h : GS base w A n c R) : n = R.length := by
  obtain ⟨ss, h1, h2⟩ := h
  have := congrArg List.length h2
  rw [List.length_map, List.length_map] at this
  rw [h1.len, this]
/-- p more in the last row. -/
def addLast (R : List (List Nat)) (p : Nat) : List (List Nat) := R.set (R.length - 1) ((R.getD (R.length - 1) []) ++ [p])
theorem addLast_len (R : List (List Nat)) (p : Nat) : (addLast R p).length = R.length := List.length_set
theorem GS.own {base : Nat} {w : World} {A : Option Addr} {n c : Nat} {R : List (List Nat)} (h : GS base w A n c R) :
    ∃ xs, w.ownsRow base 34 1 (.slice A n c) n xs ∧ ∀ w' A' c', w'.ownsRow base 34 1 (.slice A' (n + 1) c') (n + 1) (xs ++ [.slice none 0 0]) → w.grownBy w' (Value.slice A n c).ownBlock → ((Value.slice A' (n + 1) c').ownBlock = (Value.slice A n c).ownBlock ∨ (Value.slice A' (n + 1) c').ownBlock = some w.heap.size) → (A' = none → c' = 0) → GS base w' A' (n + 1) c' (R ++ [[]]) := by
  obtain ⟨ss, h1, h2⟩ := h
  exact ⟨_, h1.own, fun w' A' c' ho hg hat hn => ⟨_, h1.add ho hg hat hn, by rw [List.map_append, List.map_append, h2]; rfl⟩⟩
theorem GS.last {base : Nat} {w : World} {A : Option Addr} {n c : Nat} {R : List (List Nat)} (h : GS base w A n c R) (hn : 1 ≤ n) :
    ∃ tb La Ln Lc, A = some ⟨tb, 0, none⟩ ∧ Ln = (R.getD (R.length - 1) []).length ∧ w.cell? ⟨tb, n - 1, none⟩ = some (.slice La Ln Lc) ∧ w.frozen? ⟨tb, n - 1, none⟩ = false ∧ base ≤ tb ∧ n ≤ c ∧ w.ownsRow base 3 1 (.slice La Ln Lc) Ln (pin (R.getD (R.length - 1) [])) ∧
      ∀ w1 w2 A' c' (p : Nat), Later w w1 → w2.ownsRow base 3 1 (.slice A' (Ln + 1) c') (Ln + 1) (pin (R.getD (R.length - 1) []) ++ [.int .i64 p]) → w1.grownBy w2 (Value.slice La Ln Lc).ownBlock →
        ((Value.slice A' (Ln + 1) c').ownBlock = (Value.slice La Ln Lc).ownBlock ∨ (Value.slice A' (Ln + 1) c').ownBlock = some w1.heap.size) → (A' = none → c' = 0) →
        w2.cell? ⟨tb, n - 1, none⟩ = some (.slice La Ln Lc) ∧ w2.frozen? ⟨tb, n - 1, none⟩ = false ∧ GS base (w2.setCell ⟨tb, n - 1, none⟩ (.slice A' (Ln + 1) c')) A n c (addLast R p) := by
  obtain ⟨ss, h1, h2⟩ := h
  have hlen : ss.length = R.length := by
    have := congrArg List.length h2
    rwa [List.length_map, List.length_map] at this
  have hkl : n - 1 < ss.length := by have := h1.len; omega
  have hkR : n - 1 < R.length := by omega
  have hRn : R.length - 1 = n - 1 := by have := h1.len; omega
  have hkey : skey ss[n - 1] = rkey R[n - 1] := by
    have : (ss.map skey)[n - 1]? = (R.map rkey)[n - 1]? := by rw [h2]
    rw [List.getElem?_map, List.getElem?_map, List.getElem?_eq_getElem hkl, List.getElem?_eq_getElem hkR] at this
    exact Option.some.inj this
  have hgd : R.getD (R.length - 1) [] = R[n - 1] := by
    rw [hRn, List.getD_eq_getElem?_getD, List.getElem?_eq_getElem hkR]; rfl
  have hcs : ss[n - 1].cs = pin R[n - 1] := congrArg Prod.fst hkey
  have hsn : ss[n - 1].n = R[n - 1].length := congrArg Prod.snd hkey
  obtain ⟨tb, hA⟩ : ∃ tb, A = some ⟨tb, 0, none⟩ := by
    rcases h1.own.2 with ⟨_, h0⟩ | ⟨g, cap, cur, hv, _⟩
    · omega
    · injection hv with e; exact ⟨g, e⟩
  subst hA
  have hown := (h1.rows (n - 1) hkl).1
  have hv : ss[n - 1].v = .slice ss[n - 1].a ss[n - 1].n ss[n - 1].c := rfl
  rw [hgd]
  have hcell := h1.own.cellAt (n - 1) (by omega)
  rw [List.getElem?_map, List.getElem?_eq_getElem hkl] at hcell
  refine ⟨tb, ss[n - 1].a, ss[n - 1].n, ss[n - 1].c, rfl, hsn, hcell, h1.own.frozenAt _, (h1.own.lt tb rfl).1, ownG_cap h1.own, by rw [← hcs, ← hv]; exact hown, fun w1 w2 A' c' p l ho hg hat hnil => ?_⟩
  have hput := h1.put (n - 1) tb hkl rfl ⟨A', ss[n - 1].n + 1, c', pin R[n - 1] ++ [.int .i64 p]⟩ l ho hnil hg hat
  have htk : some tb ≠ ss[n - 1].v.ownBlock := fun e => h1.off (n - 1) hkl tb e.symm rfl
  have hb := hg.block tb ((own_later h1.own l).lt tb rfl).2 htk
  refine ⟨(cell_block hb).trans (l.cell hcell), ?_, _, hput, ?_⟩
  · have h3 : w2.ownsRow base 34 1 (.slice (some ⟨tb, 0, none⟩) n c) n (ss.map SlG.v) := own_apart (own_later h1.own l) hg fun q hq => by injection hq with hq; subst hq; exact htk
    exact h3.frozenAt _
  · rw [List.map_set, h2]
    unfold addLast
    rw [List.map_set, hgd, hRn]
    congr 1
    show (pin R[n - 1] ++ [Value.int .i64 (p : Int)], ss[n - 1].n + 1) = (pin (R[n - 1] ++ [p]), (R[n - 1] ++ [p]).length)
    rw [pin_append, hsn, List.length_append]; rfl
/-- Rows of places, as they are read. -/
def GrAt (w : World) (A : Option Addr) (R : List (List Nat)) : Prop := ∃ ss : List SlG, Has w A (ss.map SlG.v) ∧ ss.map skey = R.map rkey ∧ ∀ s ∈ ss, Has w s.a s.cs
theorem GrAt.later {w w' : World} {A : Option Addr} {R : List (List Nat)} (h : GrAt w A R) (l : Later w w') : GrAt w' A R := by
  obtain ⟨ss, h1, h2, h3⟩ := h
  exact ⟨ss, h1.later l, h2, fun s hs => (h3 s hs).later l⟩
theorem GS.at_ {base : Nat} {w : World} {A : Option Addr} {n c : Nat} {R : List (List Nat)} (h : GS base w A n c R) : GrAt w A R := by
  obtain ⟨ss, h1, h2⟩ := h
  refine ⟨ss, Has.ownG h1.own, h2, fun s hs => ?_⟩
  obtain ⟨k, hk, rfl⟩ := List.mem_iff_getElem.1 hs
  exact Has.ownG (h1.rows k hk).1
theorem GrAt.get {w : World} {A : Option Addr} {R : List (List Nat)} (h : GrAt w A R) (k : Nat) (hk : k < R.length) :
    ∃ b off a c, A = some ⟨b, off, none⟩ ∧ w.cell? ⟨b, off + k, none⟩ = some (.slice a R[k].length c) ∧ Has w a (pin R[k]) := by
  obtain ⟨ss, h1, h2, h3⟩ := h
  have hlen : ss.length = R.length := by
    have := congrArg List.length h2
    rwa [List.length_map, List.length_map] at this
  have hkl : k < ss.length := by omega
  have hkey : skey ss[k] = rkey R[k] := by
    have : (ss.map skey)[k]? = (R.map rkey)[k]? := by rw [h2]
    rw [List.getElem?_map, List.getElem?_map, List.getElem?_eq_getElem hkl, List.getElem?_eq_getElem hk] at this
    exact Option.some.inj this
  have hcs : ss[k].cs = pin R[k] := congrArg Prod.fst hkey
  have hsn : ss[k].n = R[k].length := congrArg Prod.snd hkey
  obtain ⟨b, off, hA, _, hc⟩ := h1.at_ (k := k) (by rw [List.length_map]; exact hkl)
  refine ⟨b, off, ss[k].a, ss[k].c, hA, ?_, ?_⟩
  · rw [hc, List.getElem_map]
    unfold SlG.v
    rw [hsn]
  · rw [← hcs]; exact h3 _ (List.getElem_mem hkl)
theorem GrAt.one {w : World} {g : Nat} {a : Option Addr} {l : List Nat} {c : Nat} {t : TypeId} (hb : Blk w g #[.slice a l.length c] t) (h : Has w a (pin l)) : GrAt w (some ⟨g, 0, none⟩) [l] :=
  ⟨[⟨a, l.length, c, pin l⟩], hb.has, rfl, fun s hs => by rw [List.mem_singleton] at hs; subst hs; exact h⟩
end Go.Proofs.YtkdpjocglfephaaDoor

/- The walk of agg.check; the order of the groups. -/

namespace Go.Proofs.YtkdpjocglfephaaDoor
open Go.RowKit
set_option linter.unusedVariables false

/-- Ints as cells. -/
def iin (l : List Int) : List Value := l.map (Value.int .i64)
theorem iin_len (l : List Int) : (iin l).length = l.length := by simp [iin]
theorem Has.iin {w : World} {A : Option Addr} {l : List Int} (h : Has w A (iin l)) (k : Nat) (hk : k < l.length) : ∃ b off, A = some ⟨b, off, none⟩ ∧ w.cell? ⟨b, off + k, none⟩ = some (.int .i64 l[k]) := by
  obtain ⟨b, off, hA, _, hc⟩ := h.at_ (k := k) (by rw [iin_len]; exact hk)
  refine ⟨b, off, hA, ?_⟩
  rw [hc]; simp [Go.Proofs.YtkdpjocglfephaaDoor.iin]
/-- Aggregates as cells. -/
def fa (l : List (Int × Int)) : List Value := l.flatMap fun x => [.int .i64 x.1, .int .i64 x.2]
theorem fa_length : ∀ l : List (Int × Int), (fa l).length = l.length * 2
  | [] => rfl
  | x :: r => by
    have := fa_length r
    show ([_, _] ++ fa r).length = _
    rw [List.length_append, this, List.length_cons]
    simp; omega
theorem fa_get : ∀ (l : List (Int × Int)) (k : Nat) (h : k < l.length), (fa l)[k * 2]? = some (.int .i64 l[k].1) ∧ (fa l)[k * 2 + 1]? = some (.int .i64 l[k].2)
  | x :: r, 0, _ => ⟨rfl, rfl⟩
  | x :: r, k + 1, h => by
    have ih := fa_get r k (by simpa using h)
    rw [show (k + 1) * 2 = k * 2 + 2 by omega, show k * 2 + 2 + 1 = k * 2 + 1 + 2 by omega]
    exact ih
theorem Has.fa {w : World} {A : Option Addr} {l : List (Int × Int)} (h : Has w A (fa l)) (k : Nat) (hk : k < l.length) :
    ∃ b off, A = some ⟨b, off, none⟩ ∧ w.cell? ⟨b, off + k * 2, none⟩ = some (.int .i64 l[k].1) ∧ w.cell? ⟨b, off + k * 2 + 1, none⟩ = some (.int .i64 l[k].2) := by
  rcases h with h | ⟨b, off, hA, _, hc⟩
  · have h1 := fa_length l
    rw [h] at h1
    simp at h1
    omega
  · obtain ⟨h0, h1⟩ := fa_get l k hk
    exact ⟨b, off, hA, hc _ _ h0, hc _ _ h1⟩
def AggOk (W : Int) (a : Int × Int) : Prop := 1 ≤ a.1 ∧ a.1 ≤ 4 ∧ a.2 < W ∧ (0 ≤ a.2 ∨ a.1 = 1)
/-- What may be. -/
def RunOk (W : Int) (bys : List Int) (aggs : List (Int × Int)) : Prop := (∀ c ∈ bys, 0 ≤ c ∧ c < W) ∧ ∀ a ∈ aggs, AggOk W a
def CkI {α : Type} (P : α → Prop) (l : List α) (w : World) (iv : Value) (wr : World) : Prop := ∃ k : Nat, iv = .int .i64 k ∧ k ≤ l.length ∧ (∀ c ∈ l.take k, P c) ∧ Later w wr
theorem CkI.mk {α : Type} {P : α → Prop} {l : List α} {w wr : World} (y : Int) (k : Nat) (hy : y = (k : Int)) (hk : k ≤ l.length) (h : ∀ c ∈ l.take k, P c) (L : Later w wr) : CkI P l w (.int .i64 y) wr := by
  subst hy; exact ⟨k, rfl, hk, h, L⟩
theorem take_all {α : Type} {P : α → Prop} {l : List α} {k : Nat} (h : ∀ c ∈ l.take k, P c) (hk : k < l.length) (hp : P l[k]) : ∀ c ∈ l.take (k + 1), P c := fun c hc => by
  rw [List.take_succ_eq_append_getElem hk] at hc
  rcases List.mem_append.1 hc with hc | hc
  · exact h c hc
  · rw [List.mem_singleton] at hc; subst hc; exact hp
def CheckP (W : Int) (bys : List Int) (aggs : List (Int × Int)) (a0 : Addr) (w : World) (e : Ending) (w' : World) : Prop :=
  (RunOk W bys aggs ∧ e = .returned .nilIface ∧ Later w w') ∨ (¬ RunOk W bys aggs ∧ ∃ v, e = .returned v ∧ ErrD w.heap.size 1 w' v a0 ∧ Later w w')

set_option maxRecDepth 100000 in
set_option maxHeartbeats 4000000 in
theorem check_any24 (W : Int) (Bp Gp : Option Addr) (bn bc gn gc : Nat) (bys : List Int) (aggs : List (Int × Int)) (a0 a1 a2 : Addr) (w : World) (hS : S24 w a0 a1 a2) (hbn : bn = bys.length) (hgn : gn = aggs.length) (hb : Has w Bp (iin bys)) (hg : Has w Gp (fa aggs)) (hl1 : bys.length ≤ 1000) (hl2 : aggs.length ≤ 1000) :
    Calls Tryd.prog 56 #[.int .i64 W, .slice Bp bn bc, .slice Gp gn gc] w (CheckP W bys aggs a0 w) := by
  subst hbn hgn
  have HS := Lib.hid hS
  have HB := Lib.hid hb
  have HG := Lib.hid hg
  have HI0 := Lib.hid (CkI.mk (P := fun c : Int => 0 ≤ c ∧ c < W) (l := bys) (w := w) (wr := w) 0 0 rfl (Nat.zero_le _) (by intro c hc; simp at hc) (Later.refl _))
  clear hS hb hg
  go_enter Tryd.func56, Tryd.ntmps56
  go_wp2_with fail
  go_loopw [13] (fun iv wr => CkI (fun c : Int => 0 ≤ c ∧ c < W) bys w iv wr) (fun i _ => bys.length - (intOf i).toNat)
  case atStart => exact HI0.out
  case round =>
    obtain ⟨k, rfl, hk, hall, lat⟩ := hrel
    have HALL := Lib.hid hall
    have HLAT := Lib.hid lat
    clear HI0 hall
    by_cases hlt : k < bys.length
    · obtain ⟨b, off, hA, c0⟩ := (HB.out.later lat).iin k hlt
      subst hA
      have HTA := Lib.hid (fun (h : 0 ≤ bys[k] ∧ bys[k] < W) => take_all HALL.out hlt h)
      have HMM := Lib.hid (show bys[k] ∈ bys from List.getElem_mem hlt)
      generalize bys[k] = c at c0 HTA HMM
      have x0 := (HS.out.later lat).arg
      clear lat
      by_cases h0 : c < 0
      · have HBAD := Lib.hid (show ¬ RunOk W bys aggs from fun h => by have := h.1 _ HMM.out; omega)
        have hd : decide (c < 0) = true := by simpa using h0
        have hsz := HLAT.out.size
        go_wp2_with (go_at_call 48; refine (at_e0 _ _ a0 wr).mono ?_; rintro e wn ⟨v, rfl, hv, l2⟩; have HV := Lib.hid (hv.mono (B' := w.heap.size) hsz); have HL2 := Lib.hid (HLAT.out.trans l2); clear l2 hv)
        go_ret
        exact .inr ⟨HBAD.out, _, rfl, HV.out, HL2.out⟩
      · have hd : decide (c < 0) = false := by simpa using h0
        by_cases h1 : W ≤ c
        · have HBAD := Lib.hid (show ¬ RunOk W bys aggs from fun h => by have := h.1 _ HMM.out; omega)
          have hd2 : decide (W ≤ c) = true := by simpa using h1
          have hd3 : decide (c ≥ W) = true := by simpa using h1
          have hsz := HLAT.out.size
          go_wp2_with (go_at_call 48; refine (at_e0 _ _ a0 wr).mono ?_; rintro e wn ⟨v, rfl, hv, l2⟩; have HV := Lib.hid (hv.mono (B' := w.heap.size) hsz); have HL2 := Lib.hid (HLAT.out.trans l2); clear l2 hv)
          go_ret
          exact .inr ⟨HBAD.out, _, rfl, HV.out, HL2.out⟩
        · have hd2 : decide (W ≤ c) = false := by simpa using h1
          have hd3 : decide (c ≥ W) = false := by simpa using h1
          have HT2 := Lib.hid (HTA.out ⟨by omega, by omega⟩)
          clear HTA HMM
          go_wp2_with fail
          go_roundw
          case rel => exact CkI.mk _ (k + 1) (by omega) hlt HT2.out HLAT.out
          case measure => simp [intOf]; omega
    · have HBY := Lib.hid (show ∀ c ∈ bys, 0 ≤ c ∧ c < W from by
        have := HALL.out
        rwa [show k = bys.length by omega, List.take_length] at this)
      have HJ0 := Lib.hid (CkI.mk (P := AggOk W) (l := aggs) (w := w) (wr := wr) 0 0 rfl (Nat.zero_le _) (by intro c hc; simp at hc) lat)
      clear HALL lat
      go_wp2_with fail
      go_loopw [31] (fun iv wr => CkI (AggOk W) aggs w iv wr) (fun i _ => aggs.length - (intOf i).toNat)
      case atStart => exact HJ0.out
      case round =>
        obtain ⟨j, rfl, hj, hall, lat⟩ := hrel
        have HALL := Lib.hid hall
        clear HJ0 hall HLAT
        by_cases hltj : j < aggs.length
        · obtain ⟨b, off, hA, c0, c1⟩ := (HG.out.later lat).fa j hltj
          subst hA
          have HTA := Lib.hid (fun (h : AggOk W (aggs[j].1, aggs[j].2)) => take_all HALL.out hltj h)
          have HMM := Lib.hid (show (aggs[j].1, aggs[j].2) ∈ aggs from List.getElem_mem hltj)
          generalize aggs[j].1 = op at c0 HTA HMM
          generalize aggs[j].2 = at_ at c1 HTA HMM
          obtain ⟨gv, hgv⟩ : ∃ g, wr.heap.size = g := ⟨_, rfl⟩
          obtain ⟨w1, hw1⟩ : ∃ x, wr.alloc (.cells #[.int .i64 op, .int .i64 at_] 65) = x := ⟨_, rfl⟩
          have BV := Blk.new wr #[.int .i64 op, .int .i64 at_] 65 gv hgv.symm
          have HLW := Lib.hid (lat.alloc (.cells #[.int .i64 op, .int .i64 at_] 65))
          rw [hw1] at BV HLW
          have v0 := BV.cell 0 _ rfl
          have v1 := BV.cell 1 _ rfl
          have x0 := (HS.out.later HLW.out).arg
          clear lat BV
          have hsz := HLW.out.size
          by_cases hok : AggOk W (op, at_)
          · have HT2 := Lib.hid (HTA.out hok)
            obtain ⟨k1, k2, k3, k4⟩ := hok
            dsimp only at k1 k2 k3 k4
            have d1 : decide (op < 1) = false := by simpa using k1
            have d2 : decide (op > 4) = false := by simpa using k2
            have d3 : decide (at_ ≥ W) = false := by simpa using k3
            have d2' : decide (4 < op) = false := by simpa using k2
            have d3' : decide (W ≤ at_) = false := by simpa using k3
            by_cases h4 : at_ < 0
            · have d4 : decide (at_ < 0) = true := by simpa using h4
              obtain rfl : op = 1 := by omega
              clear HTA HMM k1 k2 k3 k4 h4
              go_wp2_with fail
              go_roundw
              case rel => exact CkI.mk _ (j + 1) (by omega) hltj HT2.out HLW.out
              case measure => simp [intOf]; omega
            · have d4 : decide (at_ < 0) = false := by simpa using h4
              clear HTA HMM k1 k2 k3 k4 h4
              go_wp2_with fail
              go_roundw
              case rel => exact CkI.mk _ (j + 1) (by omega) hltj HT2.out HLW.out
              case measure => simp [intOf]; omega
          · have HBAD := Lib.hid (show ¬ RunOk W bys aggs from fun h => hok (h.2 _ HMM.out))
            clear HTA HMM HALL
            have hcase : (op < 1) ∨ (¬ op < 1 ∧ 4 < op) ∨ (¬ op < 1 ∧ ¬ 4 < op ∧ W ≤ at_) ∨ (¬ op < 1 ∧ ¬ 4 < op ∧ ¬ W ≤ at_ ∧ at_ < 0 ∧ op ≠ 1) := by
              unfold AggOk at hok
              dsimp only at hok
              omega
            clear hok
            rcases hcase with h1 | ⟨h1, h2⟩ | ⟨h1, h2, h3⟩ | ⟨h1, h2, h3, h4, h5⟩
            · have d1 : decide (op < 1) = true := by simpa using h1
              go_wp2_with (go_at_call 48; refine (at_e0 _ _ a0 w1).mono ?_; rintro e wn ⟨v, rfl, hv, l2⟩; have HV := Lib.hid (hv.mono (B' := w.heap.size) hsz); have HL2 := Lib.hid (HLW.out.trans l2); clear l2 hv)
              go_ret
              exact .inr ⟨HBAD.out, _, rfl, HV.out, HL2.out⟩
            · have d1 : decide (op < 1) = false := by simpa using h1
              have d2 : decide (4 < op) = true := by simpa using h2
              go_wp2_with (go_at_call 48; refine (at_e0 _ _ a0 w1).mono ?_; rintro e wn ⟨v, rfl, hv, l2⟩; have HV := Lib.hid (hv.mono (B' := w.heap.size) hsz); have HL2 := Lib.hid (HLW.out.trans l2); clear l2 hv)
              go_ret
              exact .inr ⟨HBAD.out, _, rfl, HV.out, HL2.out⟩
            · have d1 : decide (op < 1) = false := by simpa using h1
              have d2 : decide (4 < op) = false := by simpa using h2
              have d3 : decide (W ≤ at_) = true := by simpa using h3
              go_wp2_with (go_at_call 48; refine (at_e0 _ _ a0 w1).mono ?_; rintro e wn ⟨v, rfl, hv, l2⟩; have HV := Lib.hid (hv.mono (B' := w.heap.size) hsz); have HL2 := Lib.hid (HLW.out.trans l2); clear l2 hv)
              go_ret
              exact .inr ⟨HBAD.out, _, rfl, HV.out, HL2.out⟩
            · have d1 : decide (op < 1) = false := by simpa using h1
              have d2 : decide (4 < op) = false := by simpa using h2
              have d3 : decide (W ≤ at_) = false := by simpa using h3
              have d4 : decide (at_ < 0) = true := by simpa using h4
              have d5 : (op != 1) = true := by simpa using h5
              go_wp2_with (go_at_call 48; refine (at_e0 _ _ a0 w1).mono ?_; rintro e wn ⟨v, rfl, hv, l2⟩; have HV := Lib.hid (hv.mono (B' := w.heap.size) hsz); have HL2 := Lib.hid (HLW.out.trans l2); clear l2 hv)
              go_ret
              exact .inr ⟨HBAD.out, _, rfl, HV.out, HL2.out⟩
        · have HAG := Lib.hid (show ∀ c ∈ aggs, AggOk W c from by
            have := HALL.out
            rwa [show j = aggs.length by omega, List.take_length] at this)
          have HLT := Lib.hid lat
          clear HALL lat
          go_wp2_with fail
          go_ret
          exact .inl ⟨⟨HBY.out, HAG.out⟩, rfl, HLT.out⟩
end Go.Proofs.YtkdpjocglfephaaDoor

/- The order of the groups: agg.groups$1. -/



namespace Go.Proofs.YtkdpjocglfephaaDoor
open Go.RowKit
set_option linter.unusedVariables false

/-- A table's value. -/
def cellAt (cols : List (List Val3)) (c : Int) (p : Nat) : Val3 := (cols.getD c.toNat []).getD p z3
/-- How two rows stand, by these columns. -/
def cmpBy (cols : List (List Val3)) : List Int → Nat → Nat → Int
  | [], _, _ => 0
  | c :: r, x, y => if cmp3 (cellAt cols c x) (cellAt cols c y) = 0 then cmpBy cols r x y else cmp3 (cellAt cols c x) (cellAt cols c y)
theorem cmpBy_drop (cols : List (List Val3)) (bys : List Int) (k : Nat) (h : k < bys.length) (x y : Nat) : cmpBy cols (bys.drop k) x y = if cmp3 (cellAt cols bys[k] x) (cellAt cols bys[k] y) = 0 then cmpBy cols (bys.drop (k + 1)) x y else cmp3 (cellAt cols bys[k] x) (cellAt cols bys[k] y) := by
  rw [List.drop_eq_getElem_cons h]; rfl
theorem cellAt_get (zs : List SlV) (c p : Nat) (hc : c < zs.length) (hp : p < zs[c].l.length) : cellAt (colsOf zs) (c : Int) p = zs[c].l[p] := by
  unfold cellAt colsOf
  rw [Int.toNat_natCast, List.getD_eq_getElem?_getD, List.getD_eq_getElem?_getD, List.getElem?_map, List.getElem?_eq_getElem hc]
  show (zs[c].l[p]?).getD z3 = _
  rw [List.getElem?_eq_getElem hp]; rfl
def CbI (v : Int) (cols : List (List Val3)) (bys : List Int) (x y : Nat) (w : World) (iv : Value) (wr : World) : Prop := ∃ k : Nat, iv = .int .i64 k ∧ k ≤ bys.length ∧ v = cmpBy cols (bys.drop k) x y ∧ Grows w wr
theorem CbI.mk {v : Int} {cols : List (List Val3)} {bys : List Int} {x y : Nat} {w wr : World} (z : Int) (k : Nat) (hz : z = (k : Int)) (hk : k ≤ bys.length) (h : v = cmpBy cols (bys.drop k) x y) (g : Grows w wr) : CbI v cols bys x y w (.int .i64 z) wr := by
  subst hz; exact ⟨k, rfl, hk, h, g⟩
theorem val3_lt {w : World} {A : Option Addr} {l : List Val3} (h : Has w A (fl l)) (k : Nat) (hk : k < l.length) :
    ∃ b off, A = some ⟨b, off, none⟩ ∧ b < w.heap.size ∧ w.cell? ⟨b, off + k * 3, none⟩ = some (.int .i64 l[k].1) ∧ w.cell? ⟨b, off + k * 3 + 1, none⟩ = some (.int .i64 l[k].2.1) ∧ w.cell? ⟨b, off + k * 3 + 2, none⟩ = some (.string l[k].2.2) := by
  obtain ⟨b, off, hA, c0, c1, c2⟩ := h.val3 k hk
  exact ⟨b, off, hA, block_lt_of_cell c0, c0, c1, c2⟩

set_option maxRecDepth 100000 in
set_option maxHeartbeats 4000000 in
theorem groupsCmp_any (gb gc : Nat) (A Bp : Option Addr) (n c bn bc : Nat) (zs : List SlV) (bys : List Int) (x y : Nat) (w : World) (hbx : w.cell? ⟨gb, 0, none⟩ = some (.slice Bp bn bc)) (hcx : w.cell? ⟨gc, 0, none⟩ = some (.slice A n c)) (hn : n = zs.length) (hl : n ≤ 1000) (hbn : bn = bys.length) (hbl : bn ≤ 1000) (hb : Has w Bp (iin bys)) (hr : RowsAt w A zs)
    (hby : ∀ c ∈ bys, 0 ≤ c ∧ c < (zs.length : Int)) (hxy : ∀ s ∈ zs, x < s.l.length ∧ y < s.l.length) :
    Calls Tryd.prog 76 #[.int .i64 x, .int .i64 y, .pointer (some ⟨gb, 0, none⟩), .pointer (some ⟨gc, 0, none⟩)] w (GrowsInt (cmpBy (colsOf zs) bys x y) w) := by
  subst hn hbn
  obtain ⟨v, hv⟩ : ∃ v, cmpBy (colsOf zs) bys x y = v := ⟨_, rfl⟩
  rw [hv]
  have HI0 := Lib.hid (CbI.mk (v := v) (cols := colsOf zs) (bys := bys) (x := x) (y := y) (w := w) (wr := w) 0 0 rfl (Nat.zero_le _) hv.symm (Grows.refl w))
  have HB := Lib.hid hb
  have HR := Lib.hid hr
  have HBX := Lib.hid hbx
  have HCX := Lib.hid hcx
  have HBY := Lib.hid hby
  have HXY := Lib.hid hxy
  clear hb hr hcx hby hxy hv
  go_enter Tryd.func76, Tryd.ntmps76
  go_wp2_with fail
  clear hbx
  go_loopw [12] (fun iv wr => CbI v (colsOf zs) bys x y w iv wr) (fun i _ => bys.length - (intOf i).toNat)
  case atStart => exact HI0.out
  case round =>
    obtain ⟨k, rfl, hk, hvv, gr⟩ := hrel
    have HGR := Lib.hid gr
    clear HI0
    by_cases hlt : k < bys.length
    · obtain ⟨b, off, hA, c0⟩ := (HB.out.later gr.later).iin k hlt
      subst hA
      have hin := HBY.out _ (List.getElem_mem hlt)
      rw [cmpBy_drop _ _ k hlt] at hvv
      generalize bys[k] = cc at c0 hin hvv
      obtain ⟨ci, rfl⟩ : ∃ q : Nat, cc = (q : Int) := ⟨cc.toNat, by omega⟩
      have hci : ci < zs.length := by omega
      have hciz : (ci : Int) < (zs.length : Int) := by omega
      obtain ⟨hx, hy⟩ := HXY.out _ (List.getElem_mem hci)
      rw [cellAt_get zs ci x hci hx, cellAt_get zs ci y hci hy] at hvv
      obtain ⟨tb, to_, hA2, ck, hcol, _, _, _⟩ := (HR.out.later gr.later).get ci hci
      subst hA2
      obtain ⟨vb, vo, hV, hvb, x0, x1, x2⟩ := val3_lt hcol x hx
      obtain ⟨vb', vo', hV', _, y0, y1, y2⟩ := val3_lt hcol y hy
      rw [hV] at hV'
      injection hV' with hV'
      injection hV' with e1 e2
      subst e1 e2
      rw [hV] at ck
      obtain ⟨d, hd⟩ : ∃ d, d = cmp3 zs[ci].l[x] zs[ci].l[y] := ⟨_, rfl⟩
      have HCG := Lib.hid (fun (q : Nat) (os : Array Obj) => valCmp_g zs[ci].l[x].1 zs[ci].l[x].2.1 zs[ci].l[x].2.2 zs[ci].l[y].1 zs[ci].l[y].2.1 zs[ci].l[y].2.2 (Go.Sort.grow (wr.drewN q) os))
      rw [show cmpV zs[ci].l[x].1 zs[ci].l[x].2.1 zs[ci].l[x].2.2 zs[ci].l[y].1 zs[ci].l[y].2.1 zs[ci].l[y].2.2 = d from hd.symm] at HCG
      rw [← hd] at hvv
      have hxz : (x : Int) < (zs[ci].l.length : Int) := by omega
      have hyz : (y : Int) < (zs[ci].l.length : Int) := by omega
      generalize zs[ci].l[x].1 = t1 at x0 HCG
      generalize zs[ci].l[x].2.1 = i1 at x1 HCG
      generalize zs[ci].l[x].2.2 = s1 at x2 HCG
      generalize zs[ci].l[y].1 = t2 at y0 HCG
      generalize zs[ci].l[y].2.1 = i2 at y1 HCG
      generalize zs[ci].l[y].2.2 = s2 at y2 HCG
      clear hd hcol hx hy
      generalize zs[ci].l.length = ln at ck hxz hyz
      generalize zs[ci].c = lc at ck
      have hcb := gr.later.cell HCX.out
      have k0 := fun (q : Nat) (os : Array Obj) => Go.cell_grown (w := wr) (block_lt_of_cell hcb) hcb q os
      have k1 := fun (q : Nat) (os : Array Obj) => Go.cell_grown (w := wr) (block_lt_of_cell ck) ck q os
      have m0 := fun (q : Nat) (os : Array Obj) => Go.cell_grown (w := wr) hvb x0 q os
      have m1 := fun (q : Nat) (os : Array Obj) => Go.cell_grown (w := wr) hvb x1 q os
      have m2 := fun (q : Nat) (os : Array Obj) => Go.cell_grown (w := wr) hvb x2 q os
      have n0 := fun (q : Nat) (os : Array Obj) => Go.cell_grown (w := wr) hvb y0 q os
      have n1 := fun (q : Nat) (os : Array Obj) => Go.cell_grown (w := wr) hvb y1 q os
      have n2 := fun (q : Nat) (os : Array Obj) => Go.cell_grown (w := wr) hvb y2 q os
      have mixed : Tryd.prog.follows .mixedOrders = true := by kernel_rfl
      have HVV := Lib.hid hvv
      clear hcb ck x0 x1 x2 y0 y1 y2 hvb hvv hV hin gr
      by_cases h0 : d = 0
      · have hd0 : (d != 0) = false := by simpa using h0
        rw [if_pos h0] at HVV
        clear h0
        go_wp2_with fail
        go_quiet_grown (first | (go_at_call 74; refine Go.Calls.grown_of (HCG.out _ _)))
        go_wp2_with fail
        go_roundw
        case rel => exact CbI.mk _ (k + 1) (by omega) hlt HVV.out (HGR.out.trans ⟨_, _, rfl⟩)
        case measure => simp [intOf]; omega
      · have hd0 : (d != 0) = true := by simpa using h0
        rw [if_neg h0] at HVV
        clear h0
        go_wp2_with fail
        go_quiet_grown (first | (go_at_call 74; refine Go.Calls.grown_of (HCG.out _ _)))
        go_wp2_with fail
        go_ret
        exact ⟨by rw [HVV.out]; rfl, HGR.out.trans ⟨_, _, rfl⟩⟩
    · have HV := Lib.hid (show v = 0 from by rw [hvv, show k = bys.length by omega, List.drop_length]; rfl)
      clear hvv
      go_wp2_with fail
      go_ret
      exact ⟨by rw [HV.out]; rfl, HGR.out⟩
end Go.Proofs.YtkdpjocglfephaaDoor

/- Insertion sort leaves those alike as they stood: mathematics. -/

namespace Go.Proofs.YtkdpjocglfephaaDoor
open Go Go.Sort
set_option linter.unusedVariables false
set_option linter.unusedSectionVars false
section
variable {α : Type} [Inhabited α]
/-- Of those alike the lesser first. -/
def ltS (cf : α → α → Int) (r : α → Nat) (x y : α) : Bool := decide (cf x y < 0 ∨ cf x y = 0 ∧ r x < r y)
def ltC (cf : α → α → Int) (x y : α) : Bool := decide (cf x y < 0)
structure PreO (cf : α → α → Int) : Prop where
  turn : ∀ x y, cf y x = - cf x y
  trans : ∀ x y z, cf x y ≤ 0 → cf y z ≤ 0 → cf x z ≤ 0 ∧ (cf x y < 0 ∨ cf y z < 0 → cf x z < 0)
theorem PreO.self {cf : α → α → Int} (h : PreO cf) (x : α) : cf x x = 0 := by have := h.turn x x; omega
theorem PreO.swo {cf : α → α → Int} (h : PreO cf) (r : α → Nat) : SWO (ltS cf r) where
  irrefl x := by unfold ltS; rw [decide_eq_false_iff_not, h.self]; omega
  trans x y z h1 h2 := by
    unfold ltS at *
    rw [decide_eq_true_eq] at *
    have ht := h.trans x y z (by omega) (by omega)
    rcases h1 with h1 | ⟨h1, h3⟩
    · exact .inl (ht.2 (.inl h1))
    · rcases h2 with h2 | ⟨h2, h4⟩
      · exact .inl (ht.2 (.inr h2))
      · have := h.trans z y x (by have := h.turn y z; omega) (by have := h.turn x y; omega)
        have := h.turn x z
        exact .inr ⟨by omega, by omega⟩
  ntrans x y z h1 h2 := by
    unfold ltS at *
    rw [decide_eq_false_iff_not] at *
    have a := h.turn x y
    have b := h.turn y z
    have c := h.turn x z
    have ht := h.trans z y x (by omega) (by omega)
    intro h3
    by_cases e1 : cf x y = 0
    · by_cases e2 : cf y z = 0
      · omega
      · have := ht.2 (.inl (by omega)); omega
    · have := ht.2 (.inr (by omega)); omega
theorem ins_same (cf : α → α → Int) (r : α → Nat) (i : Nat) : ∀ (j : Nat) (d : Array α), j < d.size → j ≤ i → r d[j]! = i → (∀ k, k < j → r d[k]! < i) →
    insInner (ltC cf) 0 j d = insInner (ltS cf r) 0 j d ∧ (insInner (ltC cf) 0 j d).size = d.size ∧ (∀ k, k ≤ j → r (insInner (ltC cf) 0 j d)[k]! ≤ i) ∧ ∀ k, j < k → (insInner (ltC cf) 0 j d)[k]! = d[k]!
  | 0, d, hj, _, h0, _ => by
    unfold insInner
    exact ⟨rfl, rfl, fun k hk => by obtain rfl : k = 0 := by omega
                                    omega, fun _ _ => rfl⟩
  | j + 1, d, hj, hji, h0, hl => by
    unfold insInner
    have e : ltS cf r d[j + 1]! d[j]! = ltC cf d[j + 1]! d[j]! := by
      unfold ltS ltC
      have := hl j (Nat.lt_succ_self _)
      exact decide_eq_decide.2 ⟨fun h => by omega, fun h => .inl h⟩
    rw [e]
    by_cases hlt : (j + 1 > 0 && ltC cf d[j + 1]! d[j]!) = true
    · rw [if_pos hlt, if_pos hlt]
      have hsz : (swp d (j + 1) j).size = d.size := by simp [swp]
      have g1 : (swp d (j + 1) j)[j]! = d[j + 1]! := by
        rw [getElem!_pos _ j (by rw [hsz]; omega)]
        simp [swp]
      have g2 : (swp d (j + 1) j)[j + 1]! = d[j]! := by
        rw [getElem!_pos _ (j + 1) (by rw [hsz]; omega)]
        simp [swp, hj]
      have g3 : ∀ k, k ≠ j → k ≠ j + 1 → (swp d (j + 1) j)[k]! = d[k]! := fun k h1 h2 => by
        by_cases hk : k < d.size
        · rw [getElem!_pos _ k (by rw [hsz]; exact hk), getElem!_pos d k hk]
          simp only [swp]
          rw [Array.getElem_setIfInBounds (by simpa using hk), if_neg (by omega), Array.getElem_setIfInBounds hk, if_neg (by omega)]
        · rw [getElem!_neg _ k (by rw [hsz]; exact hk), getElem!_neg d k hk]
      obtain ⟨i1, i2, i3, i4⟩ := ins_same cf r i j (swp d (j + 1) j) (by rw [hsz]; omega) (by omega) (by rw [g1]; exact h0) (fun k hk => by rw [g3 k (by omega) (by omega)]; exact hl k (by omega))
      refine ⟨i1, by rw [i2, hsz], fun k hk => ?_, fun k hk => by rw [i4 k (by omega), g3 k (by omega) (by omega)]⟩
      by_cases hkj : k ≤ j
      · exact i3 k hkj
      · obtain rfl : k = j + 1 := by omega
        rw [i4 _ (Nat.lt_succ_self _), g2]
        exact Nat.le_of_lt (hl j (Nat.lt_succ_self _))
    · rw [if_neg hlt, if_neg hlt]
      refine ⟨rfl, rfl, fun k hk => ?_, fun _ _ => rfl⟩
      by_cases hkj : k < j + 1
      · exact Nat.le_of_lt (hl k hkj)
      · obtain rfl : k = j + 1 := by omega
        omega
theorem out_same (cf : α → α → Int) (r : α → Nat) (b : Nat) : ∀ (m i : Nat) (d : Array α), b - i = m → b ≤ d.size → (∀ k, k < i → r d[k]! < i) → (∀ k, i ≤ k → k < b → r d[k]! = k) → insOuter (ltC cf) 0 b i d = insOuter (ltS cf r) 0 b i d := by
  intro m
  induction m with
  | zero =>
    intro i d hm _ _ _
    unfold insOuter
    rw [if_neg (by omega), if_neg (by omega)]
  | succ m ih =>
    intro i d hm hb h1 h2
    unfold insOuter
    rw [if_pos (by omega), if_pos (by omega)]
    obtain ⟨e1, e2, e3, e4⟩ := ins_same cf r i i d (by omega) (Nat.le_refl _) (h2 i (Nat.le_refl _) (by omega)) h1
    rw [← e1]
    refine ih (i + 1) _ (by omega) (by rw [e2]; exact hb) (fun k hk => Nat.lt_succ_of_le (e3 k (by omega))) fun k hk hkb => ?_
    rw [e4 k (by omega)]
    exact h2 k (by omega) hkb
/-- What insertion sort makes of places that stand in their order: a permutation, sorted, those alike as they stood. -/
theorem ins_stable {cf : α → α → Int} (h : PreO cf) (r : α → Nat) (d : Array α) (hd : ∀ k, k < d.size → r d[k]! = k) :
    PermIn 0 d.size d (insertionSort (ltC cf) d 0 d.size) ∧ SortedIn (ltS cf r) 0 d.size (insertionSort (ltC cf) d 0 d.size) := by
  have e : insertionSort (ltC cf) d 0 d.size = insertionSort (ltS cf r) d 0 d.size := by
    unfold insertionSort
    rcases Nat.eq_zero_or_pos d.size with h0 | hp
    · unfold insOuter; rw [if_neg (by omega), if_neg (by omega)]
    · refine out_same cf r d.size _ 1 d rfl (Nat.le_refl _) (fun k hk => ?_) (fun k hk hkb => hd k hkb)
      obtain rfl : k = 0 := by omega
      rw [hd 0 hp]; decide
  rw [e]
  exact insertionSort_holds (h.swo r) d 0 d.size (Nat.zero_le _) (Nat.le_refl _)
end
end Go.Proofs.YtkdpjocglfephaaDoor
