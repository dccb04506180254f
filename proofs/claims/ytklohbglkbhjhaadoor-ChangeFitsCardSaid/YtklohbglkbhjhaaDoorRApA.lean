
import Derived.Test.YtklohbglkbhjhaaDoorSchC
import Derived.Test.YtklohbglkbhjhaaDoorRefSch
import Derived.Test.YtklohbglkbhjhaaDoorPlayS
import Derived.Test.YtklohbglkbhjhaaDoorRowsM
import Derived.Test.YtklohbglkbhjhaaDoorBase
import Derived.Test.YtklohbglkbhjhaaDoorChgE
import Derived.Test.YtklohbglkbhjhaaDoorPlayV
import Derived.Test.YtklohbglkbhjhaaDoorPlayN
import Derived.Test.YtklohbglkbhjhaaDoorSchA
import Derived.Deep.CutBlock
import Derived.WalkKit
import Derived.Laws.OwnMore
import Derived.Laws.BytesArg
import Derived.Laws.Rows
import Derived.Deep.AppendLies
import Derived.Deep.Draws
import Derived.Test.YtklohbglkbhjhaaDoorChecked
import Derived.Deep.OwnRows
import Derived.Lib.Hide
import Derived.Deep.Quiet
import Derived.Laws.AppendOwnNone
import Derived.Lib.Strings
import Derived.Outline
import Derived.WalkLawsBesides
import Derived.WalkSpells
import Derived.PlainAid
import Derived.Deep.QuietTactic
import Derived.BigQuiet
import Derived.RegionTactic
import Derived.BigRegion
import Derived.Handy
import Derived.Laws.BitsAllLaws
import Derived.Deep.RegionWith
import Derived.Lib.AppendStr
import Derived.Deep.RegionLaw
import Derived.Maps.AppendAt
import Derived.OpenShut
import Derived.WideShapes
import Derived.ChangeArms
import Derived.Deep.Slices
import Derived.Sort.Grow
import Derived.Lib.SliceRun
import Derived.Shelf.Spec.SlicesInsert
import Derived.Lib.Overlaps
import Derived.Lib.AppendZerosOnto
import Derived.OrdersHeld
import Derived.LaidEql
import Derived.Stop.Asserts
import Derived.RowKitTokens
import Derived.Stop.IfaceNil
import Derived.Laws.BitsLemmas
import Derived.Laws.Bits64
import Derived.WalkSmall
import Derived.Lib.Bytealg
import Derived.Deep.SlicePairs
import Derived.Shelf.Abstract
import Derived.Lib.QuietBelow
import Derived.Deep.CutRange
import Derived.Deep.MidRow
/- The document's Apply: where a schema and a layout on their way lie. -/




namespace Go.Proofs.YtklohbglkbhjhaaDoor
open Go.RowKit
set_option linter.unusedVariables false

structure TB (B gt gm : Nat) (w : World) (s : St3) (gv vc ge ec : Nat) : Prop where
  bs : Blk w gt #[.slice (some ⟨gv, 0, none⟩) s.1.length vc, .int .i64 s.2.1] 24
  bl : Blk w gm #[.int .i64 s.2.2.sb, .int .i64 s.2.2.pb, .int .i64 s.2.2.parts, .slice (some ⟨ge, 0, none⟩) s.2.2.enc.length ec] 27
  ov : w.ownsRow B 59 3 (.slice (some ⟨gv, 0, none⟩) s.1.length vc) s.1.length (fc s.1)
  oe : w.ownsRow B 3 1 (.slice (some ⟨ge, 0, none⟩) s.2.2.enc.length ec) s.2.2.enc.length (ein s.2.2.enc)
  hb : B ≤ gt ∧ B ≤ gm
section
variable {B gt gm : Nat} {w w' : World} {s : St3} {gv vc ge ec gv' vc' ge' ec' : Nat}
theorem TB.later (h : TB B gt gm w s gv vc ge ec) (l : Later w w') : TB B gt gm w' s gv vc ge ec := ⟨h.bs.later l, h.bl.later l, own_later h.ov l, own_later h.oe l, h.hb⟩
/-- A cell of another block is written. -/
theorem own_aside {e : TypeId} {size n c g q k : Nat} {xs : List Value} {cs : Array Value} {t : TypeId} (h : w.ownsRow B e size (.slice (some ⟨g, 0, none⟩) n c) n xs) (hb : Blk w q cs t) (ht : e ≠ t) (v : Value) : (w.setCell ⟨q, k, none⟩ v).ownsRow B e size (.slice (some ⟨g, 0, none⟩) n c) n xs := by
  obtain ⟨cu, hcu⟩ := own_typ h
  exact own_apart h (only_setCell (g := q) (World.grownBy.refl _ _) (.inl rfl) v) (fun p hp e => by injection hp with hp; injection e with e; exact ne_typ hcu hb ht (hp.trans e))
theorem TB.last (h : TB B gt gm w s gv vc ge ec) (x : Int) : TB B gt gm (w.setCell ⟨gt, 1, none⟩ (.int .i64 x)) (s.1, x, s.2.2) gv vc ge ec := by
  have n1 : gm ≠ gt := ne_typ h.bl h.bs (by decide)
  exact ⟨h.bs.set_ 1 _, h.bl.far (by exact n1) _, own_aside h.ov h.bs (by decide) _, own_aside h.oe h.bs (by decide) _, h.hb⟩
theorem TB.lay (h : TB B gt gm w s gv vc ge ec) (k : Nat) (v : Value) (m : Lay4) (hm : m.enc = s.2.2.enc) (hb : (#[.int .i64 s.2.2.sb, .int .i64 s.2.2.pb, .int .i64 s.2.2.parts, .slice (some ⟨ge, 0, none⟩) s.2.2.enc.length ec] : Array Value).setIfInBounds k v = #[.int .i64 m.sb, .int .i64 m.pb, .int .i64 m.parts, .slice (some ⟨ge, 0, none⟩) m.enc.length ec]) : TB B gt gm (w.setCell ⟨gm, k, none⟩ v) (s.1, s.2.1, m) gv vc ge ec := by
  have n1 : gt ≠ gm := ne_typ h.bs h.bl (by decide)
  have b := h.bl.set_ k v
  rw [hb] at b
  refine ⟨h.bs.far (by exact n1) _, b, own_aside h.ov h.bl (by decide) _, ?_, h.hb⟩
  show World.ownsRow _ B 3 1 (.slice (some ⟨ge, 0, none⟩) m.enc.length ec) m.enc.length (ein m.enc)
  rw [hm]; exact own_aside h.oe h.bl (by decide) _
/-- The columns' slice is another. -/
theorem TB.cols (h : TB B gt gm w s gv vc ge ec) (l : List Col3) (o : w'.ownsRow B 59 3 (.slice (some ⟨gv', 0, none⟩) l.length vc') l.length (fc l)) {q : Nat} (g : w.grownBy w' (some q)) {cq : Array Value} (hq : Blk w q cq 59) :
    TB B gt gm (w'.setCell ⟨gt, 0, none⟩ (.slice (some ⟨gv', 0, none⟩) l.length vc')) (l, s.2) gv' vc' ge ec := by
  obtain ⟨cu, hcu⟩ := own_typ h.oe
  have n1 : gt ≠ q := ne_typ h.bs hq (by decide)
  have n2 : gm ≠ q := ne_typ h.bl hq (by decide)
  have n3 : ge ≠ q := ne_typ hcu hq (by decide)
  have b1 : Blk w' gt _ _ := (g.block gt h.bs.lt (fun e => by injection e with e; exact n1 e)).trans h.bs
  have b2 : Blk w' gm _ _ := (g.block gm h.bl.lt (fun e => by injection e with e; exact n2 e)).trans h.bl
  have e2 := own_apart h.oe g (fun p hp e => by injection hp with hp; injection e with e; exact n3 (hp.trans e))
  have n4 : gm ≠ gt := ne_typ h.bl h.bs (by decide)
  exact ⟨b1.set_ 0 _, b2.far (by exact n4) _, own_aside o b1 (by decide) _, own_aside e2 b1 (by decide) _, h.hb⟩
/-- The encodings' slice is another. -/
theorem TB.encs (h : TB B gt gm w s gv vc ge ec) (l : List Int) (o : w'.ownsRow B 3 1 (.slice (some ⟨ge', 0, none⟩) l.length ec') l.length (ein l)) {q : Nat} (g : w.grownBy w' (some q)) {cq : Array Value} (hq : Blk w q cq 3) :
    TB B gt gm (w'.setCell ⟨gm, 3, none⟩ (.slice (some ⟨ge', 0, none⟩) l.length ec')) (s.1, s.2.1, { s.2.2 with enc := l }) gv vc ge' ec' := by
  obtain ⟨cu, hcu⟩ := own_typ h.ov
  have n1 : gt ≠ q := ne_typ h.bs hq (by decide)
  have n2 : gm ≠ q := ne_typ h.bl hq (by decide)
  have n3 : gv ≠ q := ne_typ hcu hq (by decide)
  have b1 : Blk w' gt _ _ := (g.block gt h.bs.lt (fun e => by injection e with e; exact n1 e)).trans h.bs
  have b2 : Blk w' gm _ _ := (g.block gm h.bl.lt (fun e => by injection e with e; exact n2 e)).trans h.bl
  have e2 := own_apart h.ov g (fun p hp e => by injection hp with hp; injection e with e; exact n3 (hp.trans e))
  have n4 : gt ≠ gm := ne_typ h.bs h.bl (by decide)
  exact ⟨b1.far (by exact n4) _, b2.set_ 3 _, own_aside e2 b2 (by decide) _, own_aside o b2 (by decide) _, h.hb⟩
theorem TB.encSet (h : TB B gt gm w s gv vc ge ec) (i : Nat) (x : Int) : TB B gt gm (w.setCell ⟨ge, i, none⟩ (.int .i64 x)) (s.1, s.2.1, { s.2.2 with enc := s.2.2.enc.set i x }) gv vc ge ec := by
  obtain ⟨h1, h2⟩ := h.oe.stored i (.int .i64 x)
  have hl : (s.2.2.enc.set i x).length = s.2.2.enc.length := List.length_set
  obtain ⟨ce, hce⟩ := own_typ h.oe
  obtain ⟨cv, hcv⟩ := own_typ h.ov
  refine ⟨h.bs.far (by exact ne_typ h.bs hce (by decide)) _, ?_, own_apart h.ov h2 (fun p hp e => by injection hp with hp; injection e with e; exact ne_typ hcv hce (by decide) (hp.trans e)), ?_, h.hb⟩
  · show Blk _ gm #[.int .i64 s.2.2.sb, .int .i64 s.2.2.pb, .int .i64 s.2.2.parts, .slice (some ⟨ge, 0, none⟩) (s.2.2.enc.set i x).length ec] _
    rw [hl]; exact h.bl.far (by exact ne_typ h.bl hce (by decide)) _
  · show World.ownsRow _ B 3 1 (.slice (some ⟨ge, 0, none⟩) (s.2.2.enc.set i x).length ec) (s.2.2.enc.set i x).length (ein (s.2.2.enc.set i x))
    rw [hl, ← ein_set]; exact h1
theorem TB.colSet (h : TB B gt gm w s gv vc ge ec) (o : Nat) (v : Value) (l : List Col3) (hl : l.length = s.1.length) (hc : (fc s.1).set o v = fc l) : TB B gt gm (w.setCell ⟨gv, o, none⟩ v) (l, s.2) gv vc ge ec := by
  obtain ⟨h1, h2⟩ := h.ov.stored o v
  obtain ⟨ce, hce⟩ := own_typ h.oe
  obtain ⟨cv, hcv⟩ := own_typ h.ov
  refine ⟨?_, h.bl.far (by exact ne_typ h.bl hcv (by decide)) _, ?_, own_apart h.oe h2 (fun p hp e => by injection hp with hp; injection e with e; exact ne_typ hce hcv (by decide) (hp.trans e)), h.hb⟩
  · show Blk _ gt #[.slice (some ⟨gv, 0, none⟩) l.length vc, .int .i64 s.2.1] _
    rw [hl]; exact h.bs.far (by exact ne_typ h.bs hcv (by decide)) _
  · show World.ownsRow _ B 59 3 (.slice (some ⟨gv, 0, none⟩) l.length vc) l.length (fc l)
    rw [hl, ← hc]; exact h1
theorem TB.vlo (h : TB B gt gm w s gv vc ge ec) : B ≤ gv := (own_capG h.ov).2.2.1
theorem TB.elo (h : TB B gt gm w s gv vc ge ec) : B ≤ ge := (own_capG h.oe).2.2.1
theorem TB.col (h : TB B gt gm w s gv vc ge ec) (i : Nat) (hi : i < s.1.length) : w.cell? ⟨gv, i * 3, none⟩ = some (.int .i64 s.1[i].1) ∧ w.cell? ⟨gv, i * 3 + 1, none⟩ = some (.string s.1[i].2.1) ∧ w.cell? ⟨gv, i * 3 + 2, none⟩ = some (.int .i64 s.1[i].2.2) ∧ w.frozen? ⟨gv, i * 3 + 1, none⟩ = false ∧ w.frozen? ⟨gv, i * 3 + 2, none⟩ = false := by
  obtain ⟨b, o, hA, h0, h1, h2⟩ := (Has.ownG h.ov).col3 i hi
  injection hA with hA
  injection hA with e1 e2
  subst e1 e2
  rw [Nat.zero_add] at h0 h1 h2
  exact ⟨h0, h1, h2, h.ov.frozenAt _, h.ov.frozenAt _⟩
theorem TB.encCell (h : TB B gt gm w s gv vc ge ec) (i : Nat) (hi : i < s.2.2.enc.length) : (∃ u, w.cell? ⟨ge, i, none⟩ = some u) ∧ w.frozen? ⟨ge, i, none⟩ = false :=
  have h1 := own_capG h.oe
  ⟨Option.isSome_iff_exists.1 (h1.2.2.2.2 i (by omega)), h.oe.frozenAt i⟩
theorem TB.has (h : TB B gt gm w s gv vc ge ec) : Has w (some ⟨gv, 0, none⟩) (fc s.1) := Has.ownG h.ov
end
theorem lsetB {w0 w : World} (g k : Nat) (v : Value) (hg : w0.heap.size ≤ g) (l : Later w0 w) : Later w0 (w.setCell ⟨g, k, none⟩ v) := Later.set_ l hg v
/-- What a deed makes of it. -/
def RTurnP (W0 : World) (gt gm : Nat) (o : Except Int St3) (e : Ending) (w' : World) : Prop :=
  Later W0 w' ∧ ((∃ n, o = .error n ∧ n ∈ [(1 : Int), 3, 4, 6, 9] ∧ e = .returned (.int .i64 n)) ∨ (∃ s' gv vc ge ec, o = .ok s' ∧ e = .returned (.int .i64 0) ∧ TB W0.heap.size gt gm w' s' gv vc ge ec))
theorem RTurnP.no {W0 : World} {gt gm : Nat} {o : Except Int St3} {w' : World} (n : Int) (ho : o = .error n) (hn : n ∈ [(1 : Int), 3, 4, 6, 9]) (l : Later W0 w') : RTurnP W0 gt gm o (.returned (.int .i64 n)) w' := ⟨l, .inl ⟨n, ho, hn, rfl⟩⟩
theorem RTurnP.yes {W0 : World} {gt gm : Nat} {o : Except Int St3} {w' : World} {s' : St3} {gv vc ge ec : Nat} (ho : o = .ok s') (h : TB W0.heap.size gt gm w' s' gv vc ge ec) (l : Later W0 w') : RTurnP W0 gt gm o (.returned (.int .i64 0)) w' := ⟨l, .inr ⟨s', gv, vc, ge, ec, ho, rfl, h⟩⟩
end Go.Proofs.YtklohbglkbhjhaaDoor

/- The document's Fits of a value, of a row. -/


namespace Go.Proofs.YtklohbglkbhjhaaDoor
open Go.RowKit
set_option linter.unusedVariables false

set_option maxRecDepth 100000 in
theorem refMay1 (t i : Int) (s : ByteArray) (w : World) :
    Calls Tryd.prog 66 #[.agg #[.int .i64 t, .int .i64 i, .string s]] w (SaysP (MayV t i s.size) w) := by
  have HE1 := Lib.hid (fun o : Obj => (Below.refl w.heap.size w).alloc (Nat.le_refl _) o)
  by_cases hz : s.size = 0
  · have hse : s.toList.isEmpty = true := by
      rw [Lib.toList_data]; cases s with | mk d => simpa [ByteArray.size] using hz
    go_enter Tryd.func66, Tryd.ntmps66
    go_wp2_with fail
    all_goals go_ret
    all_goals simp only [ne_eq, beq_iff_eq, beq_eq_false_iff_ne] at *
    all_goals first
      | exact SaysP.yes (by unfold MayV; omega) (HE1.out _)
      | exact SaysP.no (by unfold MayV; omega) (HE1.out _)
      | exact ⟨_, by unfold MayV; simp; omega, rfl, HE1.out _⟩
  · have hse : s.toList.isEmpty = false := by
      rw [Lib.toList_data]; cases s with | mk d => simpa [ByteArray.size] using hz
    go_enter Tryd.func66, Tryd.ntmps66
    go_wp2_with fail
    all_goals go_ret
    all_goals simp only [ne_eq, beq_iff_eq, beq_eq_false_iff_ne] at *
    all_goals first
      | exact SaysP.yes (by unfold MayV; omega) (HE1.out _)
      | exact SaysP.no (by unfold MayV; omega) (HE1.out _)
      | exact ⟨_, by unfold MayV; simp; omega, rfl, HE1.out _⟩

theorem refTyp1 (t : Int) (w : World) : Calls Tryd.prog 67 #[.int .i64 t] w (SaysP (1 ≤ t ∧ t ≤ 4) w) := by
  go_enter Tryd.func67, Tryd.ntmps67
  go_wp2_with fail
  all_goals go_ret
  all_goals first
    | exact SaysP.yes (by omega) (Below.refl _ _)
    | exact SaysP.no (by omega) (Below.refl _ _)
    | exact ⟨_, by simp; omega, rfl, Below.refl _ _⟩

/-- Which values fit a column of a type. -/
def FitsU (t vt i : Int) (n : Nat) : Prop := 1 ≤ t ∧ t ≤ 4 ∧ (vt = 0 ∨ vt = t) ∧ MayV vt i n

set_option maxRecDepth 100000 in
theorem refFits1 (t vt i : Int) (s : ByteArray) (w : World) :
    Calls Tryd.prog 55 #[.int .i64 t, .agg #[.int .i64 vt, .int .i64 i, .string s]] w (SaysP (FitsU t vt i s.size) w) := by
  obtain ⟨w1, hw1⟩ : ∃ w1 : World, w.alloc (.cells #[.int .i64 vt, .int .i64 i, .string s] 29) = w1 := ⟨_, rfl⟩
  have b1 : Below w.heap.size w w1 := hw1 ▸ (Below.refl _ _).alloc (Nat.le_refl _) _
  have hlt : w.heap.size < w1.heap.size := by rw [← hw1]; simp
  have hc : w1.cell? ⟨w.heap.size, 0, none⟩ = some (.int .i64 vt) := by rw [← hw1, World.cell?_alloc_at _ _ _ _ rfl]; rfl
  have HC := Lib.hid (refMay1 vt i s w1)
  have HB := Lib.hid b1
  have HCELL := Lib.hid hc
  have HW := Lib.hid hw1
  clear hw1 b1 hc
  go_enter Tryd.func55, Tryd.ntmps55
  go_wp2_with fail
  rw [HW.out]
  refine HC.out.mono ?_
  rintro e w2 ⟨r, hr, rfl, b2⟩
  have HB2 := Lib.hid (HB.out.trans (b2.mono HB.out.size))
  have hc2 := (b2.cell (p := ⟨w.heap.size, 0, none⟩) hlt).trans HCELL.out
  have z2 := HB2.out.size
  have HR := Lib.hid hr
  clear b2 hr HC HCELL HW HB
  cases r with
  | false =>
    have HN := Lib.hid (show ¬ FitsU t vt i s.size from fun h => by have := HR.out.2 h.2.2.2; cases this)
    go_wp2_with fail
    go_ret
    exact SaysP.no HN.out HB2.out
  | true =>
    have HM := Lib.hid (HR.out.1 rfl)
    go_wp2_with fail
    refine (refTyp1 t w2).mono ?_
    rintro e w3 ⟨r3, hr3, rfl, b3⟩
    have HB3 := Lib.hid (HB2.out.trans (b3.mono z2))
    have hlt2 : w.heap.size < w2.heap.size := block_lt_of_cell hc2
    have hc3 := (b3.cell (p := ⟨w.heap.size, 0, none⟩) hlt2).trans hc2
    have HR3 := Lib.hid hr3
    clear b3 hr3 hc2 HB2
    cases r3 with
    | false =>
      have HN := Lib.hid (show ¬ FitsU t vt i s.size from fun h => by have := HR3.out.2 ⟨h.1, h.2.1⟩; cases this)
      go_wp2_with fail
      go_ret
      exact SaysP.no HN.out HB3.out
    | true =>
      have HT := Lib.hid (HR3.out.1 rfl)
      by_cases h4 : vt = 0
      · have h5 : (vt == 0) = true := by simp [h4]
        have HY := Lib.hid (show FitsU t vt i s.size from ⟨HT.out.1, HT.out.2, .inl h4, HM.out⟩)
        clear h4
        go_wp2_with fail
        go_ret
        exact SaysP.yes HY.out HB3.out
      · have h5 : (vt == 0) = false := by simp [h4]
        by_cases h6 : vt = t
        · have h7 : (vt == t) = true := by simp [h6]
          have HY := Lib.hid (show FitsU t vt i s.size from ⟨HT.out.1, HT.out.2, .inr h6, HM.out⟩)
          clear h4 h6
          go_wp2_with fail
          go_ret
          exact SaysP.yes HY.out HB3.out
        · have h7 : (vt == t) = false := by simp [h6]
          have HY := Lib.hid (show ¬ FitsU t vt i s.size from fun h => h.2.2.1.elim h4 h6)
          clear h4 h6
          go_wp2_with fail
          go_ret
          exact SaysP.no HY.out HB3.out

theorem fitsU_iff (t vt i : Int) (s : ByteArray) : FitsU t vt i s.size ↔ FitsV t (vt, i, s) := ⟨fun ⟨a, b, c, d⟩ => ⟨⟨a, b⟩, c, d⟩, fun ⟨⟨a, b⟩, c, d⟩ => ⟨a, b, c, d⟩⟩
theorem refFits_c (t vt i : Int) (s : ByteArray) (w : World) : Calls Tryd.prog 55 #[.int .i64 t, .agg #[.int .i64 vt, .int .i64 i, .string s]] w (TellsP (FitsV t (vt, i, s)) w) :=
  (refFits1 t vt i s w).mono fun e w' ⟨r, hr, he, hb⟩ => ⟨r, hr.trans (fitsU_iff t vt i s), he, hb⟩
end Go.Proofs.YtklohbglkbhjhaaDoor
