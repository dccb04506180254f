
import Derived.Test.YtklohbglkbhjhaaDoorChgE
import Derived.Test.YtklohbglkbhjhaaDoorSchA
import Derived.Test.YtklohbglkbhjhaaDoorRowsM
import Derived.Test.YtklohbglkbhjhaaDoorBase
import Derived.WalkKit
import Derived.Laws.OwnMore
import Derived.Laws.BytesArg
import Derived.Laws.Rows
import Derived.Deep.AppendLies
import Derived.Deep.Draws
import Derived.Test.YtklohbglkbhjhaaDoorChecked
import Derived.Deep.OwnRows
import Derived.Lib.Hide
import Derived.Deep.Quiet
import Derived.Laws.AppendOwnNone
import Derived.Lib.Strings
import Derived.Outline
import Derived.WalkLawsBesides
import Derived.WalkSpells
import Derived.PlainAid
import Derived.Deep.QuietTactic
import Derived.BigQuiet
import Derived.RegionTactic
import Derived.BigRegion
import Derived.Handy
import Derived.Laws.BitsAllLaws
import Derived.Deep.RegionWith
import Derived.Lib.AppendStr
import Derived.Deep.RegionLaw
import Derived.Maps.AppendAt
import Derived.OpenShut
import Derived.WideShapes
import Derived.ChangeArms
import Derived.Deep.Slices
import Derived.Sort.Grow
import Derived.Lib.SliceRun
import Derived.Shelf.Spec.SlicesInsert
import Derived.Lib.Overlaps
import Derived.Lib.AppendZerosOnto
import Derived.OrdersHeld
import Derived.LaidEql
import Derived.Stop.Asserts
import Derived.RowKitTokens
import Derived.Stop.IfaceNil
import Derived.Laws.BitsLemmas
import Derived.Laws.Bits64
import Derived.WalkSmall
import Derived.Lib.Bytealg
import Derived.Deep.SlicePairs
import Derived.Shelf.Abstract
import Derived.Lib.QuietBelow
import Derived.Deep.CutRange
import Derived.Deep.MidRow
/- slices.Clone, Delete, Insert (of one) at columns. (tools/gen_schC.py, out of ChgC, ChgD, ChgE) -/


namespace Go.Proofs.YtklohbglkbhjhaaDoor
open Go.RowKit
set_option linter.unusedVariables false

theorem fc_take : ∀ (l : List Col3) (k : Nat), fc (l.take k) = (fc l).take (k * 3)
  | [], k => by simp [fc]
  | x :: r, 0 => by simp [fc]
  | x :: r, k + 1 => by
    have ih := fc_take r k
    rw [show (k + 1) * 3 = k * 3 + 1 + 1 + 1 by omega]
    show [_, _, _] ++ fc (r.take k) = _
    rw [ih]; rfl
theorem fc_drop : ∀ (l : List Col3) (k : Nat), fc (l.drop k) = (fc l).drop (k * 3)
  | [], k => by simp [fc]
  | x :: r, 0 => by simp
  | x :: r, k + 1 => by
    have ih := fc_drop r k
    rw [show (k + 1) * 3 = k * 3 + 1 + 1 + 1 by omega]
    show fc (r.drop k) = ([_, _, _] ++ fc r).drop _
    rw [ih]; rfl
end Go.Proofs.YtklohbglkbhjhaaDoor

/- A table of rows that grow: a slice of slices, each the call's own, none beside another. -/

namespace Go.Proofs.YtklohbglkbhjhaaDoor
open Go.RowKit
set_option linter.unusedVariables false

theorem own_apart {w w' : World} {base : Nat} {e : TypeId} {k : Nat} {v : Value} {n : Nat} {xs : List Value} {row : Option Nat} (h : w.ownsRow base e k v n xs) (g : w.grownBy w' row) (hne : ∀ q, v.ownBlock = some q → some q ≠ row) : w'.ownsRow base e k v n xs := by
  obtain ⟨h1, h2⟩ := h
  refine ⟨h1, ?_⟩
  rcases h2 with h2 | ⟨q, cap, cur, rfl, hb, hg, hrest⟩
  · exact .inl h2
  · exact .inr ⟨q, cap, cur, rfl, hb, (g.block q (Array.getElem?_eq_some_iff.1 hg).1 (hne q rfl)).trans hg, hrest⟩
theorem own_setFar {w : World} {base : Nat} {e : TypeId} {k : Nat} {v : Value} {n : Nat} {xs : List Value} (h : w.ownsRow base e k v n xs) {p : Addr} (hp : p.block < base) (u : Value) : (w.setCell p u).ownsRow base e k v n xs := by
  obtain ⟨h1, h2⟩ := h
  refine ⟨h1, ?_⟩
  rcases h2 with h2 | ⟨q, cap, cur, rfl, hb, hg, hrest⟩
  · exact .inl h2
  · exact .inr ⟨q, cap, cur, rfl, hb, (Below.heap_setCell w p u q (by omega)).trans hg, hrest⟩

/-- A row: where it lies, how many elements, its room, its cells. -/
structure SlG where
  a : Option Addr
  n : Nat
  c : Nat
  cs : List Value
def SlG.v (s : SlG) : Value := .slice s.a s.n s.c
def SlG.nil : SlG := ⟨none, 0, 0, []⟩
def SlG.ok (base : Nat) (e : TypeId) (size : Nat) (w : World) (s : SlG) : Prop := w.ownsRow base e size s.v s.n s.cs ∧ (s.a = none → s.c = 0)
theorem SlG.ok.nil (base : Nat) (e : TypeId) (size : Nat) (w : World) : SlG.nil.ok base e size w := ⟨ownG_nil _ _ _ _, fun _ => rfl⟩
theorem SlG.ok.later {base : Nat} {e : TypeId} {size : Nat} {w w' : World} {s : SlG} (h : s.ok base e size w) (l : Later w w') : s.ok base e size w' := ⟨own_later h.1 l, h.2⟩

/-- Block g is a table of rows. -/
structure Tab (T e : TypeId) (size : Nat) (w : World) (g : Nat) (ss : List SlG) : Prop where
  blk : Blk w g (ss.map SlG.v).toArray T
  own : ∀ k (h : k < ss.length), ss[k].ok (g + 1) e size w
  apart : ∀ j k (hj : j < ss.length) (hk : k < ss.length), j ≠ k → ∀ q, ss[j].v.ownBlock = some q → ss[k].v.ownBlock ≠ some q
section
variable {T e : TypeId} {size g : Nat} {w w' : World} {ss : List SlG}
theorem Tab.later (h : Tab T e size w g ss) (l : Later w w') : Tab T e size w' g ss := ⟨h.blk.later l, fun k hk => (h.own k hk).later l, h.apart⟩
theorem Tab.lt (h : Tab T e size w g ss) : g < w.heap.size := h.blk.lt
theorem Tab.cell (h : Tab T e size w g ss) (k : Nat) (hk : k < ss.length) : w.cell? ⟨g, k, none⟩ = some (.slice ss[k].a ss[k].n ss[k].c) := h.blk.cell k _ (by
  rw [List.getElem?_toArray, List.getElem?_map, List.getElem?_eq_getElem hk]; rfl)
theorem Tab.frozen (h : Tab T e size w g ss) (k : Nat) : w.frozen? ⟨g, k, none⟩ = false := h.blk.frozen k
theorem Tab.new (w : World) (T e : TypeId) (size n : Nat) (g : Nat) (hg : g = w.heap.size) : Tab T e size (w.alloc (.cells (madeCells #[.slice none 0 0] n) T)) g (List.replicate n SlG.nil) := by
  refine ⟨?_, fun k hk => ?_, fun j k hj hk hne q hq => ?_⟩
  · have e : (madeCells #[Value.slice none 0 0] n) = (List.map SlG.v (List.replicate n SlG.nil)).toArray := by
      apply Array.ext'
      rw [toList_madeCells_one, List.map_replicate]; rfl
    rw [← e]
    exact Blk.new _ _ _ _ hg
  · rw [List.getElem_replicate]; exact SlG.ok.nil _ _ _ _
  · rw [List.getElem_replicate] at hq; cases hq
/-- A row has grown, its slice is laid in its place. -/
theorem Tab.put (h : Tab T e size w g ss) (k : Nat) (hk : k < ss.length) (s' : SlG) (ho : w'.ownsRow (g + 1) e size s'.v s'.n s'.cs) (hnil : s'.a = none → s'.c = 0) (hgr : w.grownBy w' ss[k].v.ownBlock)
    (hat : s'.v.ownBlock = ss[k].v.ownBlock ∨ s'.v.ownBlock = some w.heap.size) : Tab T e size (w'.setCell ⟨g, k, none⟩ s'.v) g (ss.set k s') := by
  have hgk : some g ≠ ss[k].v.ownBlock := by
    intro e
    have := ((h.own k hk).1.lt g e.symm).1
    omega
  refine ⟨?_, fun j hj => ?_, fun i j hi hj hne q hq => ?_⟩
  · have hb : Blk w' g (ss.map SlG.v).toArray T := (hgr.block g h.lt hgk).trans h.blk
    have := hb.set_ k s'.v
    rwa [List.setIfInBounds_toArray, ← List.map_set] at this
  · rw [List.length_set] at hj
    rw [List.getElem_set]
    split
    · exact ⟨own_setFar ho (Nat.lt_succ_self _) _, hnil⟩
    · rename_i hne
      refine ⟨own_setFar (own_apart (h.own j hj).1 hgr fun q hq e => ?_) (Nat.lt_succ_self _) _, (h.own j hj).2⟩
      exact h.apart j k hj hk (fun e => hne e.symm) q hq e.symm
  · rw [List.length_set] at hi hj
    rw [List.getElem_set] at hq ⊢
    split at hq
    · rename_i hik
      subst hik
      rw [if_neg hne]
      rcases hat with hat | hat
      · rw [hat] at hq
        exact h.apart k j hk hj hne q hq
      · rw [hat] at hq
        injection hq with hq
        subst hq
        intro e
        have := ((h.own j hj).1.lt _ e).2
        omega
    · split
      · rename_i hik hjk
        subst hjk
        rcases hat with hat | hat
        · rw [hat]; exact h.apart i k hi hk hne q hq
        · rw [hat]
          intro e
          injection e with e
          subst e
          have := ((h.own i hi).1.lt _ hq).2
          omega
      · exact h.apart i j hi hj hne q hq
/-- A row's cells are a column's. -/
theorem Tab.has (h : Tab T e size w g ss) (k : Nat) (hk : k < ss.length) : Has w ss[k].a ss[k].cs := by
  have := (h.own k hk).1
  unfold SlG.v at this
  exact Has.ownG this
end
/-- Columns out of a table. -/
def SlG.col (s : SlG) (l : List Val3) : SlV := ⟨s.a, s.c, l⟩
theorem Tab.rows {T : TypeId} {g : Nat} {w : World} {ss : List SlG} {L : List (List Val3)} (h : Tab T 29 3 w g ss) (hl : L.length = ss.length) (hL : ∀ k (h : k < ss.length) (h' : k < L.length), ss[k].cs = fl L[k] ∧ ss[k].n = L[k].length) :
    RowsAt w (some ⟨g, 0, none⟩) (List.zipWith SlG.col ss L) ∧ (List.zipWith SlG.col ss L).length = ss.length ∧ (List.zipWith SlG.col ss L).map (·.l) = L := by
  have hlen : (List.zipWith SlG.col ss L).length = ss.length := by rw [List.length_zipWith]; omega
  have hget : ∀ k (h : k < (List.zipWith SlG.col ss L).length), (List.zipWith SlG.col ss L)[k].v = (ss[k]'(by omega)).v := fun k hk => by
    rw [List.getElem_zipWith, SlV.v_eq]
    unfold SlG.v SlG.col
    rw [(hL k (by omega) (by omega)).2]
  refine ⟨⟨?_, fun s hs => ?_⟩, hlen, ?_⟩
  · have hm : (List.zipWith SlG.col ss L).map SlV.v = ss.map SlG.v := by
      refine List.ext_getElem (by rw [List.length_map, List.length_map, hlen]) fun k h1 h2 => ?_
      rw [List.getElem_map, List.getElem_map]
      exact hget k (by rw [List.length_map] at h1; exact h1)
    rw [hm]
    exact Blk.has h.blk
  · obtain ⟨k, hk, rfl⟩ := List.mem_iff_getElem.1 hs
    rw [hlen] at hk
    have hk2 : k < L.length := by omega
    obtain ⟨e1, e2⟩ := hL k hk hk2
    rw [List.getElem_zipWith]
    have ho := h.own k hk
    have ho1 := ho.1
    unfold SlG.v at ho1
    rw [e1, e2] at ho1
    show (⟨ss[k].a, ss[k].c, L[k]⟩ : SlV).okX none w
    exact SlV.okX.own ho1 rfl ho.2 (by simp)
  · refine List.ext_getElem (by rw [List.length_map, hlen]; omega) fun k h1 h2 => ?_
    rw [List.getElem_map, List.getElem_zipWith]; rfl
end Go.Proofs.YtklohbglkbhjhaaDoor

/- schema: a change on its way (turn), and its small deeds: laid, maySplit, recode, resort, repart. (tools/gen_schT.py) -/



namespace Go.Proofs.YtklohbglkbhjhaaDoor
open Go.RowKit
set_option linter.unusedVariables false

/-- The sentinels of schema, by their numbers. -/
structure S15 (w : World) (f : Int → Addr) : Prop where
  c1 : w.cell? ⟨1, 0, none⟩ = some (.iface 143 (.pointer (some (f 1))))
  c3 : w.cell? ⟨0, 0, none⟩ = some (.iface 143 (.pointer (some (f 3))))
  c9 : w.cell? ⟨2, 0, none⟩ = some (.iface 143 (.pointer (some (f 9))))
  c4 : w.cell? ⟨3, 0, none⟩ = some (.iface 143 (.pointer (some (f 4))))
  c6 : w.cell? ⟨4, 0, none⟩ = some (.iface 143 (.pointer (some (f 6))))
  blk : ∀ n, n ∈ [(1 : Int), 3, 4, 6, 9] → ∃ c t, w.heap[(f n).block]? = some (.cells c t (0, 0))
  ne : ∀ m n, m ∈ [(1 : Int), 3, 4, 6, 9] → n ∈ [(1 : Int), 3, 4, 6, 9] → m ≠ n → f m ≠ f n
theorem S15.later {w w' : World} {f : Int → Addr} (h : S15 w f) (l : Later w w') : S15 w' f :=
  ⟨l.cell h.c1, l.cell h.c3, l.cell h.c9, l.cell h.c4, l.cell h.c6, fun n hn => by
    obtain ⟨c, t, h1⟩ := h.blk n hn
    exact ⟨c, t, (l.block _ (Array.getElem?_eq_some_iff.1 h1).1).trans h1⟩, h.ne⟩
/-- An error that fault.At has wrapped. -/
def Er1 (w : World) (v : Value) (a : Addr) : Prop := ∃ p : Nat, v = .iface 112 (.pointer (some ⟨p, 0, none⟩)) ∧ w.cell? ⟨p, 2, none⟩ = some (.iface 143 (.pointer (some a)))
theorem Er1.later {w w' : World} {v : Value} {a : Addr} (h : Er1 w v a) (l : Later w w') : Er1 w' v a := by
  obtain ⟨p, h1, h2⟩ := h
  exact ⟨p, h1, l.cell h2⟩
/-- The cells of a change on its way. -/
def tcells (s : St3) (c : Chg) (gv vc ge ec : Nat) : Array Value := #[.slice (some ⟨gv, 0, none⟩) s.1.length vc, .int .i64 s.2.1, .int .i64 s.2.2.sb, .int .i64 s.2.2.pb, .int .i64 s.2.2.parts, .slice (some ⟨ge, 0, none⟩) s.2.2.enc.length ec, .int .i64 c.kind, .int .i64 c.col, .string c.name, .int .i64 c.typ, .int .i64 c.val.1, .int .i64 c.val.2.1, .string c.val.2.2, .int .u8 c.sep, .int .i64 c.num]
structure TS (B p : Nat) (w : World) (s : St3) (c : Chg) (gv vc ge ec : Nat) : Prop where
  blk : Blk w p (tcells s c gv vc ge ec) 78
  cols : w.ownsRow B 59 3 (.slice (some ⟨gv, 0, none⟩) s.1.length vc) s.1.length (fc s.1)
  encs : w.ownsRow B 3 1 (.slice (some ⟨ge, 0, none⟩) s.2.2.enc.length ec) s.2.2.enc.length (ein s.2.2.enc)
  ne1 : gv ≠ p
  ne2 : ge ≠ p
  ne3 : gv ≠ ge
  hp : B ≤ p
  lens : s.2.2.enc.length = s.1.length
  small : 1 ≤ s.1.length ∧ s.1.length ≤ 6
  last : 1 ≤ s.2.1 ∧ s.2.1 ≤ 10000
theorem TS.later {B p : Nat} {w w' : World} {s : St3} {c : Chg} {gv vc ge ec : Nat} (h : TS B p w s c gv vc ge ec) (l : Later w w') : TS B p w' s c gv vc ge ec :=
  ⟨h.blk.later l, own_later h.cols l, own_later h.encs l, h.ne1, h.ne2, h.ne3, h.hp, h.lens, h.small, h.last⟩
theorem TS.d0 {B p : Nat} {w : World} {s : St3} {c : Chg} {gv vc ge ec : Nat} (h : TS B p w s c gv vc ge ec) : w.cell? ⟨p, 0, none⟩ = some (.slice (some ⟨gv, 0, none⟩) s.1.length vc) := h.blk.cell 0 _ rfl
theorem TS.d1 {B p : Nat} {w : World} {s : St3} {c : Chg} {gv vc ge ec : Nat} (h : TS B p w s c gv vc ge ec) : w.cell? ⟨p, 1, none⟩ = some (.int .i64 s.2.1) := h.blk.cell 1 _ rfl
theorem TS.d2 {B p : Nat} {w : World} {s : St3} {c : Chg} {gv vc ge ec : Nat} (h : TS B p w s c gv vc ge ec) : w.cell? ⟨p, 2, none⟩ = some (.int .i64 s.2.2.sb) := h.blk.cell 2 _ rfl
theorem TS.d3 {B p : Nat} {w : World} {s : St3} {c : Chg} {gv vc ge ec : Nat} (h : TS B p w s c gv vc ge ec) : w.cell? ⟨p, 3, none⟩ = some (.int .i64 s.2.2.pb) := h.blk.cell 3 _ rfl
theorem TS.d4 {B p : Nat} {w : World} {s : St3} {c : Chg} {gv vc ge ec : Nat} (h : TS B p w s c gv vc ge ec) : w.cell? ⟨p, 4, none⟩ = some (.int .i64 s.2.2.parts) := h.blk.cell 4 _ rfl
theorem TS.d5 {B p : Nat} {w : World} {s : St3} {c : Chg} {gv vc ge ec : Nat} (h : TS B p w s c gv vc ge ec) : w.cell? ⟨p, 5, none⟩ = some (.slice (some ⟨ge, 0, none⟩) s.2.2.enc.length ec) := h.blk.cell 5 _ rfl
theorem TS.d6 {B p : Nat} {w : World} {s : St3} {c : Chg} {gv vc ge ec : Nat} (h : TS B p w s c gv vc ge ec) : w.cell? ⟨p, 6, none⟩ = some (.int .i64 c.kind) := h.blk.cell 6 _ rfl
theorem TS.d7 {B p : Nat} {w : World} {s : St3} {c : Chg} {gv vc ge ec : Nat} (h : TS B p w s c gv vc ge ec) : w.cell? ⟨p, 7, none⟩ = some (.int .i64 c.col) := h.blk.cell 7 _ rfl
theorem TS.d8 {B p : Nat} {w : World} {s : St3} {c : Chg} {gv vc ge ec : Nat} (h : TS B p w s c gv vc ge ec) : w.cell? ⟨p, 8, none⟩ = some (.string c.name) := h.blk.cell 8 _ rfl
/-- A cell of the change's own is written. -/
theorem TS.put {B p : Nat} {w : World} {s s' : St3} {c c' : Chg} {gv vc ge ec : Nat} (h : TS B p w s c gv vc ge ec) (k : Nat) (v : Value) (hb : (tcells s c gv vc ge ec).setIfInBounds k v = tcells s' c' gv vc ge ec) (h1 : s'.1 = s.1) (h2 : s'.2.2.enc = s.2.2.enc) (h3 : 1 ≤ s'.2.1 ∧ s'.2.1 ≤ 10000) : TS B p (w.setCell ⟨p, k, none⟩ v) s' c' gv vc ge ec := by
  refine ⟨by rw [← hb]; exact h.blk.set_ k v, ?_, ?_, h.ne1, h.ne2, h.ne3, h.hp, by rw [h1, h2]; exact h.lens, by rw [h1]; exact h.small, h3⟩
  · rw [h1]; exact own_apart h.cols (only_setCell (g := p) (World.grownBy.refl _ _) (.inl rfl) v) (fun q hq e => by injection hq with hq; injection e with e; exact h.ne1 (hq.trans e))
  · rw [h2]; exact own_apart h.encs (only_setCell (g := p) (World.grownBy.refl _ _) (.inl rfl) v) (fun q hq e => by injection hq with hq; injection e with e; exact h.ne2 (hq.trans e))
/-- What a deed makes of it. -/
def TurnP (W0 : World) (p : Nat) (f : Int → Addr) (o : Except Int St3) (e : Ending) (w' : World) : Prop :=
  Later W0 w' ∧ ((∃ n v, o = .error n ∧ n ∈ [(1 : Int), 3, 4, 6, 9] ∧ e = .returned v ∧ Er1 w' v (f n)) ∨ (∃ s' c' gv vc ge ec, o = .ok s' ∧ e = .returned .nilIface ∧ TS W0.heap.size p w' s' c' gv vc ge ec))
theorem TurnP.no {W0 : World} {p : Nat} {f : Int → Addr} {o : Except Int St3} {v : Value} {w' : World} (n : Int) (ho : o = .error n) (hn : n ∈ [(1 : Int), 3, 4, 6, 9]) (he : Er1 w' v (f n)) (l : Later W0 w') : TurnP W0 p f o (.returned v) w' := ⟨l, .inl ⟨n, v, ho, hn, rfl, he⟩⟩
theorem TurnP.yes {W0 : World} {p : Nat} {f : Int → Addr} {o : Except Int St3} {w' : World} {s' : St3} {c' : Chg} {gv vc ge ec : Nat} (ho : o = .ok s') (h : TS W0.heap.size p w' s' c' gv vc ge ec) (l : Later W0 w') : TurnP W0 p f o (.returned .nilIface) w' := ⟨l, .inr ⟨s', c', gv, vc, ge, ec, ho, rfl, h⟩⟩

theorem ein_set (l : List Int) (i : Nat) (x : Int) : (ein l).set i (.int .i64 x) = ein (l.set i x) := by
  unfold ein
  rw [List.map_set]
theorem TS.encSet {B p : Nat} {w : World} {s : St3} {c : Chg} {gv vc ge ec : Nat} (h : TS B p w s c gv vc ge ec) (i : Nat) (x : Int) : TS B p (w.setCell ⟨ge, i, none⟩ (.int .i64 x)) (s.1, s.2.1, { s.2.2 with enc := s.2.2.enc.set i x }) c gv vc ge ec := by
  obtain ⟨h1, h2⟩ := h.encs.stored i (.int .i64 x)
  have hl : (s.2.2.enc.set i x).length = s.2.2.enc.length := List.length_set
  refine ⟨?_, ?_, ?_, h.ne1, h.ne2, h.ne3, h.hp, by show (s.2.2.enc.set i x).length = s.1.length; rw [hl]; exact h.lens, h.small, h.last⟩
  · have hb := h.blk.far (p := ⟨ge, i, none⟩) (fun e => h.ne2 e.symm) (.int .i64 x)
    have e : tcells (s.1, s.2.1, { s.2.2 with enc := s.2.2.enc.set i x }) c gv vc ge ec = tcells s c gv vc ge ec := by
      unfold tcells; dsimp only; rw [hl]
    rw [e]; exact hb
  · exact own_apart h.cols h2 (fun q hq e => by injection hq with hq; injection e with e; exact h.ne3 (hq.trans e))
  · show World.ownsRow _ B 3 1 (.slice (some ⟨ge, 0, none⟩) (s.2.2.enc.set i x).length ec) (s.2.2.enc.set i x).length (ein (s.2.2.enc.set i x))
    rw [hl, ← ein_set]; exact h1
theorem fc_set1 : ∀ (l : List Col3) (i : Nat) (x : ByteArray), i < l.length → (fc l).set (i * 3 + 1) (.string x) = fc (nameAt l i x)
  | [], i, x, h => by simp at h
  | y :: r, 0, x, _ => rfl
  | y :: r, i + 1, x, h => by
    have ih := fc_set1 r i x (by simpa using h)
    rw [show (i + 1) * 3 + 1 = (i * 3 + 1) + 1 + 1 + 1 by omega]
    show [_, _, _] ++ ((fc r).set (i * 3 + 1) _) = [_, _, _] ++ fc (nameAt r i x)
    rw [ih]
theorem fc_set2 : ∀ (l : List Col3) (i : Nat) (x : Int), i < l.length → (fc l).set (i * 3 + 2) (.int .i64 x) = fc (typeAt l i x)
  | [], i, x, h => by simp at h
  | y :: r, 0, x, _ => rfl
  | y :: r, i + 1, x, h => by
    have ih := fc_set2 r i x (by simpa using h)
    rw [show (i + 1) * 3 + 2 = (i * 3 + 2) + 1 + 1 + 1 by omega]
    show [_, _, _] ++ ((fc r).set (i * 3 + 2) _) = [_, _, _] ++ fc (typeAt r i x)
    rw [ih]
theorem TS.colSet {B p : Nat} {w : World} {s : St3} {c : Chg} {gv vc ge ec : Nat} (h : TS B p w s c gv vc ge ec) (o : Nat) (v : Value) (l : List Col3) (hl : l.length = s.1.length) (hc : (fc s.1).set o v = fc l) : TS B p (w.setCell ⟨gv, o, none⟩ v) (l, s.2) c gv vc ge ec := by
  obtain ⟨h1, h2⟩ := h.cols.stored o v
  refine ⟨?_, ?_, ?_, h.ne1, h.ne2, h.ne3, h.hp, by show s.2.2.enc.length = l.length; rw [hl]; exact h.lens, by show 1 ≤ l.length ∧ l.length ≤ 6; rw [hl]; exact h.small, h.last⟩
  · have hb := h.blk.far (p := ⟨gv, o, none⟩) (fun e => h.ne1 e.symm) v
    have e : tcells (l, s.2) c gv vc ge ec = tcells s c gv vc ge ec := by
      unfold tcells; dsimp only; rw [hl]
    rw [e]; exact hb
  · show World.ownsRow _ B 59 3 (.slice (some ⟨gv, 0, none⟩) l.length vc) l.length (fc l)
    rw [hl, ← hc]; exact h1
  · exact own_apart h.encs h2 (fun q hq e => by injection hq with hq; injection e with e; exact h.ne3 (e.symm.trans hq.symm))
theorem TS.ge {B p : Nat} {w : World} {s : St3} {c : Chg} {gv vc ge ec : Nat} (h : TS B p w s c gv vc ge ec) : B ≤ ge := (own_capG h.encs).2.2.1
theorem TS.gv {B p : Nat} {w : World} {s : St3} {c : Chg} {gv vc ge ec : Nat} (h : TS B p w s c gv vc ge ec) : B ≤ gv := (own_capG h.cols).2.2.1
theorem TS.encCell {B p : Nat} {w : World} {s : St3} {c : Chg} {gv vc ge ec : Nat} (h : TS B p w s c gv vc ge ec) (i : Nat) (hi : i < s.1.length) : (∃ u, w.cell? ⟨ge, i, none⟩ = some u) ∧ w.frozen? ⟨ge, i, none⟩ = false := by
  have h1 := own_capG h.encs
  have := h.lens
  exact ⟨Option.isSome_iff_exists.1 (h1.2.2.2.2 i (by omega)), h.encs.frozenAt i⟩
theorem TS.col {B p : Nat} {w : World} {s : St3} {c : Chg} {gv vc ge ec : Nat} (h : TS B p w s c gv vc ge ec) (i : Nat) (hi : i < s.1.length) : w.cell? ⟨gv, i * 3, none⟩ = some (.int .i64 s.1[i].1) ∧ w.cell? ⟨gv, i * 3 + 1, none⟩ = some (.string s.1[i].2.1) ∧ w.cell? ⟨gv, i * 3 + 2, none⟩ = some (.int .i64 s.1[i].2.2) ∧ w.frozen? ⟨gv, i * 3 + 1, none⟩ = false ∧ w.frozen? ⟨gv, i * 3 + 2, none⟩ = false := by
  obtain ⟨b, o, hA, h0, h1, h2⟩ := (Has.ownG h.cols).col3 i hi
  injection hA with hA
  injection hA with e1 e2
  subst e1 e2
  rw [Nat.zero_add] at h0 h1 h2
  exact ⟨h0, h1, h2, h.cols.frozenAt _, h.cols.frozenAt _⟩
theorem typOf_at {l : List Col3} {i : Nat} (h : i < l.length) : typOf l i = l[i].2.2 := by
  unfold typOf
  rw [List.getD_eq_getElem?_getD, List.getElem?_eq_getElem h]; rfl

end Go.Proofs.YtklohbglkbhjhaaDoor

/- schema: drop, add. (tools/gen_schV.py) -/

namespace Go.Proofs.YtklohbglkbhjhaaDoor
open Go.RowKit
set_option linter.unusedVariables false

theorem own_typ {w : World} {base : Nat} {e : TypeId} {size n c g : Nat} {xs : List Value} (h : w.ownsRow base e size (.slice (some ⟨g, 0, none⟩) n c) n xs) : ∃ cur, w.heap[g]? = some (.cells cur e (0, 0)) := by
  rcases h.2 with ⟨hv, _⟩ | ⟨g', cp, cur, hv, hb, hg, hrest⟩
  · cases hv
  · injection hv with e1
    injection e1 with e1
    injection e1 with e1
    subst e1
    exact ⟨cur, hg⟩
theorem ne_typ {w : World} {g g' : Nat} {c c' : Array Value} {t t' : TypeId} (h : w.heap[g]? = some (.cells c t (0, 0))) (h' : w.heap[g']? = some (.cells c' t' (0, 0))) (ht : t ≠ t') : g ≠ g' := by
  intro e
  subst e
  rw [h] at h'
  injection h' with h'
  injection h' with e1 e2
  exact ht e2
/-- Columns are turned, their slice is written. -/
structure TC (B p : Nat) (w : World) (s : St3) (c : Chg) (l : List Col3) (gv vc ge ec : Nat) : Prop where
  blk : Blk w p ((tcells s c gv vc ge ec).setIfInBounds 0 (.slice (some ⟨gv, 0, none⟩) l.length vc)) 78
  cols : w.ownsRow B 59 3 (.slice (some ⟨gv, 0, none⟩) l.length vc) l.length (fc l)
  encs : w.ownsRow B 3 1 (.slice (some ⟨ge, 0, none⟩) s.2.2.enc.length ec) s.2.2.enc.length (ein s.2.2.enc)
  hp : B ≤ p
theorem TC.later {B p : Nat} {w w' : World} {s : St3} {c : Chg} {l : List Col3} {gv vc ge ec : Nat} (h : TC B p w s c l gv vc ge ec) (k : Later w w') : TC B p w' s c l gv vc ge ec :=
  ⟨h.blk.later k, own_later h.cols k, own_later h.encs k, h.hp⟩
theorem TC.d5 {B p : Nat} {w : World} {s : St3} {c : Chg} {l : List Col3} {gv vc ge ec : Nat} (h : TC B p w s c l gv vc ge ec) : w.cell? ⟨p, 5, none⟩ = some (.slice (some ⟨ge, 0, none⟩) s.2.2.enc.length ec) := h.blk.cell 5 _ rfl
theorem grow_later {W0 w w2 : World} {g : Nat} (h : Later W0 w) (k : w.grownBy w2 (some g)) (hg : W0.heap.size ≤ g) : Later W0 w2 := Below.grown h k h.size (fun q e => by injection e with e; omega)
theorem eraseIdx_len {α : Type} (l : List α) (i : Nat) (h : i < l.length) : (l.eraseIdx i).length = l.length - 1 := by rw [List.length_eraseIdx, if_pos h]

theorem insA_end {α : Type} (l : List α) (x : α) : insA l l.length x = l ++ [x] := by unfold insA; simp
end Go.Proofs.YtklohbglkbhjhaaDoor

/- schema: apply, fresh.Schema, fresh.Layout, tell, Apply. (tools/gen_schY.py) -/


namespace Go.Proofs.YtklohbglkbhjhaaDoor
open Go.RowKit
set_option linter.unusedVariables false

theorem own_weak {w : World} {base base' : Nat} {e : TypeId} {k : Nat} {v : Value} {n : Nat} {xs : List Value} (h : w.ownsRow base e k v n xs) (hb : base' ≤ base) : w.ownsRow base' e k v n xs := by
  obtain ⟨h1, h2⟩ := h
  refine ⟨h1, ?_⟩
  rcases h2 with h2 | ⟨q, cap, cur, rfl, hq, hrest⟩
  · exact .inl h2
  · exact .inr ⟨q, cap, cur, rfl, Nat.le_trans hb hq, hrest⟩
end Go.Proofs.YtklohbglkbhjhaaDoor

/- schema: tell, Apply. (tools/gen_schZ.py) -/




namespace Go.Proofs.YtklohbglkbhjhaaDoor
open Go.RowKit
set_option linter.unusedVariables false

theorem setCells_only {w : World} {g : Nat} : ∀ (vs : List Value) (o : Nat), w.grownBy (w.setCells g o vs) (some g) := by
  intro vs
  induction vs generalizing w with
  | nil => exact fun o => World.grownBy.refl _ _
  | cons v r ih => exact fun o => only_trans (only_setCell (g := g) (World.grownBy.refl _ _) (.inl rfl) v) (ih (o + 1))
def cagg9 (c : Chg) : Value := .agg #[.int .i64 c.kind, .int .i64 c.col, .string c.name, .int .i64 c.typ, .int .i64 c.val.1, .int .i64 c.val.2.1, .string c.val.2.2, .int .u8 c.sep, .int .i64 c.num]
theorem Blk.setAll {g : Nat} {t : TypeId} : ∀ (vs : List Value) (o : Nat) (cs : List Value) {w : World}, Blk w g cs.toArray t → Blk (w.setCells g o vs) g (setL cs o vs).toArray t
  | [], _, _, _, h => h
  | v :: r, o, cs, w, h => by
    have h1 := h.set_ o v
    rw [List.setIfInBounds_toArray] at h1
    exact Blk.setAll r (o + 1) (cs.set o v) h1
/-- A change's cells, laid anew. -/
theorem TS.laid {B p : Nat} {w : World} {s : St3} {c : Chg} {gv vc ge ec : Nat} (zs : List Value) (hz : zs.length = 15) (hb : Blk w p zs.toArray 78) (oc : w.ownsRow B 59 3 (.slice (some ⟨gv, 0, none⟩) s.1.length vc) s.1.length (fc s.1)) (oe : w.ownsRow B 3 1 (.slice (some ⟨ge, 0, none⟩) s.2.2.enc.length ec) s.2.2.enc.length (ein s.2.2.enc)) (hp : B ≤ p) (hlen : s.2.2.enc.length = s.1.length) (hsm : 1 ≤ s.1.length ∧ s.1.length ≤ 6) (hls : 1 ≤ s.2.1 ∧ s.2.1 ≤ 10000) :
    TS B p (w.setCells p 0 (tcells s c gv vc ge ec).toList) s c gv vc ge ec := by
  obtain ⟨cv, hcv⟩ := own_typ oc
  obtain ⟨ce, hce⟩ := own_typ oe
  have n1 : gv ≠ p := ne_typ hcv hb (by decide)
  have n2 : ge ≠ p := ne_typ hce hb (by decide)
  have n3 : gv ≠ ge := ne_typ hcv hce (by decide)
  refine ⟨?_, own_apart oc (setCells_only _ _) (fun q hq e => by injection hq with hq; injection e with e; exact n1 (hq.trans e)), own_apart oe (setCells_only _ _) (fun q hq e => by injection hq with hq; injection e with e; exact n2 (hq.trans e)), n1, n2, n3, hp, hlen, hsm, hls⟩
  have h := Blk.setAll (tcells s c gv vc ge ec).toList 0 zs hb
  rw [setL_eq _ _ _ (by rw [hz]; exact Nat.le_refl _), List.take_zero, List.drop_eq_nil_of_le (by rw [hz]; exact Nat.le_refl _), List.nil_append, List.append_nil] at h
  exact h
/-- What Apply gives. -/
def ApP (s : St3) (c : Chg) (w : World) (e : Ending) (w' : World) : Prop :=
  Later w w' ∧ ((∃ n, applyM s c = .error n ∧ n ∈ [(1 : Int), 3, 4, 6, 9] ∧ e = .returned (.tuple #[.agg #[.slice none 0 0, .int .i64 0], .agg #[.int .i64 0, .int .i64 0, .int .i64 0, .slice none 0 0], .int .i64 n])) ∨
    (∃ s' gv vc ge ec, applyM s c = .ok s' ∧ e = .returned (.tuple #[.agg #[.slice (some ⟨gv, 0, none⟩) s'.1.length vc, .int .i64 s'.2.1], lagg s'.2.2 (some ⟨ge, 0, none⟩) s'.2.2.enc.length ec, .int .i64 0]) ∧
      w'.ownsRow w.heap.size 59 3 (.slice (some ⟨gv, 0, none⟩) s'.1.length vc) s'.1.length (fc s'.1) ∧ w'.ownsRow w.heap.size 3 1 (.slice (some ⟨ge, 0, none⟩) s'.2.2.enc.length ec) s'.2.2.enc.length (ein s'.2.2.enc) ∧ gv ≠ ge ∧ s'.2.2.enc.length = s'.1.length ∧ (1 ≤ s'.1.length ∧ s'.1.length ≤ 6) ∧ 1 ≤ s'.2.1 ∧ s'.2.1 ≤ 10000))
end Go.Proofs.YtklohbglkbhjhaaDoor

/- rabbetlaw15.begun. -/

namespace Go.Proofs.YtklohbglkbhjhaaDoor
open Go.RowKit
set_option linter.unusedVariables false

theorem ApP.ok {s : St3} {c : Chg} {w w' : World} {e : Ending} (h : ApP s c w e w') (s' : St3) (hs : applyM s c = .ok s') :
    ∃ gv vc ge ec, e = .returned (.tuple #[.agg #[.slice (some ⟨gv, 0, none⟩) s'.1.length vc, .int .i64 s'.2.1], lagg s'.2.2 (some ⟨ge, 0, none⟩) s'.2.2.enc.length ec, .int .i64 0]) ∧
      w'.ownsRow w.heap.size 59 3 (.slice (some ⟨gv, 0, none⟩) s'.1.length vc) s'.1.length (fc s'.1) ∧ w'.ownsRow w.heap.size 3 1 (.slice (some ⟨ge, 0, none⟩) s'.2.2.enc.length ec) s'.2.2.enc.length (ein s'.2.2.enc) ∧ Later w w' := by
  obtain ⟨l, ⟨n, h1, hn, he⟩ | ⟨t, gv, vc, ge, ec, h1, he, ov, oe, _⟩⟩ := h
  · rw [hs] at h1; cases h1
  · rw [hs] at h1
    injection h1 with h1
    subst h1
    exact ⟨gv, vc, ge, ec, he, ov, oe, l⟩
theorem ApP.no {s : St3} {c : Chg} {w w' : World} {e : Ending} (h : ApP s c w e w') (n : Int) (hs : applyM s c = .error n) :
    e = .returned (.tuple #[.agg #[.slice none 0 0, .int .i64 0], .agg #[.int .i64 0, .int .i64 0, .int .i64 0, .slice none 0 0], .int .i64 n]) ∧ Later w w' := by
  obtain ⟨l, ⟨m, h1, hn, he⟩ | ⟨t, gv, vc, ge, ec, h1, he, ov, oe, _⟩⟩ := h
  · rw [hs] at h1
    injection h1 with h1
    subst h1
    exact ⟨he, l⟩
  · rw [hs] at h1; cases h1
end Go.Proofs.YtklohbglkbhjhaaDoor

/- What Apply gives, in one form: for regions that hold a call of it. -/


namespace Go.Proofs.YtklohbglkbhjhaaDoor
open Go.RowKit
set_option linter.unusedVariables false

def ApV (B : Nat) (s : St3) (c : Chg) (w' : World) (A : Option Addr) (n cp : Nat) (last sb pb parts : Int) (E : Option Addr) (en ec : Nat) (ev : Int) : Prop :=
  (∃ k, applyM s c = .error k ∧ k ∈ [(1 : Int), 3, 4, 6, 9] ∧ ev = k ∧ A = none ∧ n = 0 ∧ cp = 0 ∧ last = 0 ∧ sb = 0 ∧ pb = 0 ∧ parts = 0 ∧ E = none ∧ en = 0 ∧ ec = 0) ∨
  (∃ s' gv ge, applyM s c = .ok s' ∧ ev = 0 ∧ A = some ⟨gv, 0, none⟩ ∧ n = s'.1.length ∧ last = s'.2.1 ∧ sb = s'.2.2.sb ∧ pb = s'.2.2.pb ∧ parts = s'.2.2.parts ∧ E = some ⟨ge, 0, none⟩ ∧ en = s'.2.2.enc.length ∧
    w'.ownsRow B 59 3 (.slice A n cp) n (fc s'.1) ∧ w'.ownsRow B 3 1 (.slice E en ec) en (ein s'.2.2.enc) ∧ gv ≠ ge ∧ en = n ∧ (1 ≤ n ∧ n ≤ 6) ∧ 1 ≤ last ∧ last ≤ 10000)
theorem ApV.later {B : Nat} {s : St3} {c : Chg} {w w' : World} {A : Option Addr} {n cp : Nat} {last sb pb parts : Int} {E : Option Addr} {en ec : Nat} {ev : Int} (h : ApV B s c w A n cp last sb pb parts E en ec ev) (l : Later w w') : ApV B s c w' A n cp last sb pb parts E en ec ev := by
  rcases h with h | ⟨s', gv, ge, h1, h2, h3, h4, h5, h6, h7, h8, h9, h10, o1, o2, h11⟩
  · exact .inl h
  · exact .inr ⟨s', gv, ge, h1, h2, h3, h4, h5, h6, h7, h8, h9, h10, own_later o1 l, own_later o2 l, h11⟩
theorem ApV.fill {B : Nat} {s : St3} {c : Chg} {w : World} {A : Option Addr} {n cp : Nat} {last sb pb parts : Int} {E : Option Addr} {en ec : Nat} {ev : Int} (h : ApV B s c w A n cp last sb pb parts E en ec ev) {g : Nat} {cs : Array Value} {t : TypeId} (hb : Blk w g cs t) (t1 : 59 ≠ t) (t2 : 3 ≠ t) (o : Nat) (vs : List Value) : ApV B s c (w.setCells g o vs) A n cp last sb pb parts E en ec ev := by
  rcases h with h | ⟨s', gv, ge, h1, h2, h3, h4, h5, h6, h7, h8, h9, h10, o1, o2, h11⟩
  · exact .inl h
  · subst h3 h9
    obtain ⟨c1, hc1⟩ := own_typ o1
    obtain ⟨c2, hc2⟩ := own_typ o2
    have n1 : gv ≠ g := ne_typ hc1 hb t1
    have n2 : ge ≠ g := ne_typ hc2 hb t2
    exact .inr ⟨s', gv, ge, h1, h2, rfl, h4, h5, h6, h7, h8, rfl, h10, own_apart o1 (setCells_only _ _) (fun q hq e => by injection hq with hq; injection e with e; exact n1 (hq.trans e)), own_apart o2 (setCells_only _ _) (fun q hq e => by injection hq with hq; injection e with e; exact n2 (hq.trans e)), h11⟩
theorem ApP.v {s : St3} {c : Chg} {w w' : World} {e : Ending} (h : ApP s c w e w') {B : Nat} (hB : B ≤ w.heap.size) : ∃ (A : Option Addr) (n cp : Nat) (last sb pb parts : Int) (E : Option Addr) (en ec : Nat) (ev : Int),
    e = .returned (.tuple #[.agg #[.slice A n cp, .int .i64 last], .agg #[.int .i64 sb, .int .i64 pb, .int .i64 parts, .slice E en ec], .int .i64 ev]) ∧ ApV B s c w' A n cp last sb pb parts E en ec ev ∧ Later w w' := by
  obtain ⟨l, ⟨k, h1, hk, he⟩ | ⟨t, gv, vc, ge, ec, h1, he, ov, oe, hne, hlen, hsm, hls⟩⟩ := h
  · exact ⟨none, 0, 0, 0, 0, 0, 0, none, 0, 0, k, he, .inl ⟨k, h1, hk, rfl, rfl, rfl, rfl, rfl, rfl, rfl, rfl, rfl, rfl, rfl⟩, l⟩
  · exact ⟨_, _, _, _, _, _, _, _, _, _, _, he, .inr ⟨t, gv, ge, h1, rfl, rfl, rfl, rfl, rfl, rfl, rfl, rfl, rfl, own_weak ov hB, own_weak oe hB, hne, hlen, hsm, hls⟩, l⟩
def errOf (o : Except Int St3) : Int := match o with | .error n => n | .ok _ => 0
theorem Blk.fill {w : World} {g : Nat} {t : TypeId} (zs vs : List Value) (hb : Blk w g zs.toArray t) (hl : vs.length = zs.length) : Blk (w.setCells g 0 vs) g vs.toArray t := by
  have h := Blk.setAll vs 0 zs hb
  rw [setL_eq _ _ _ (by omega), List.take_zero, List.drop_eq_nil_of_le (by omega), List.nil_append, List.append_nil] at h
  exact h
theorem Blk.aside {w : World} {g g' : Nat} {cs : Array Value} {t : TypeId} (hb : Blk w g cs t) (hne : g ≠ g') (o : Nat) (vs : List Value) : Blk (w.setCells g' o vs) g cs t :=
  ((setCells_only (w := w) vs o).block g hb.lt (fun e => by injection e with e; exact hne e)).trans hb
theorem Later.fill {w w' : World} (l : Later w w') {g : Nat} (hg : w.heap.size ≤ g) (o : Nat) (vs : List Value) : Later w (w'.setCells g o vs) :=
  Later.of (Below.grown l (setCells_only vs o) (Later.size l) (fun q e => by injection e with e; omega))
/-- What a statement 't, m, e := Apply(..)' leaves. -/
def ResP (s : St3) (c : Chg) (wr : World) (pv qv ev : Value) (wx : World) : Prop :=
  ∃ (g1 g2 : Nat) (A : Option Addr) (n cp : Nat) (last sb pb parts : Int) (E : Option Addr) (en ec : Nat) (e : Int), pv = .pointer (some ⟨g1, 0, none⟩) ∧ qv = .pointer (some ⟨g2, 0, none⟩) ∧ ev = .int .i64 e ∧ ApV wr.heap.size s c wx A n cp last sb pb parts E en ec e ∧
    Blk wx g1 #[.slice A n cp, .int .i64 last] 24 ∧ Blk wx g2 #[.int .i64 sb, .int .i64 pb, .int .i64 parts, .slice E en ec] 27 ∧ g1 ≠ g2 ∧ wr.heap.size ≤ g1 ∧ wr.heap.size ≤ g2 ∧ Later wr wx
end Go.Proofs.YtklohbglkbhjhaaDoor
