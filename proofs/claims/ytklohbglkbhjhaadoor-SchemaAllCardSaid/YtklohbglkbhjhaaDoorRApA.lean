/- The document's Apply: where a schema and a layout on their way lie. -/
import Derived.Test.YtklohbglkbhjhaaDoorSchR
import Derived.Test.YtklohbglkbhjhaaDoorRefSch
import Derived.Test.YtklohbglkbhjhaaDoorPlayS
import Derived.Deep.CutBlock
namespace Go.Proofs.YtklohbglkbhjhaaDoor
open Go.RowKit
set_option linter.unusedVariables false

structure TB (B gt gm : Nat) (w : World) (s : St3) (gv vc ge ec : Nat) : Prop where
  bs : Blk w gt #[.slice (some ⟨gv, 0, none⟩) s.1.length vc, .int .i64 s.2.1] 24
  bl : Blk w gm #[.int .i64 s.2.2.sb, .int .i64 s.2.2.pb, .int .i64 s.2.2.parts, .slice (some ⟨ge, 0, none⟩) s.2.2.enc.length ec] 27
  ov : w.ownsRow B 59 3 (.slice (some ⟨gv, 0, none⟩) s.1.length vc) s.1.length (fc s.1)
  oe : w.ownsRow B 3 1 (.slice (some ⟨ge, 0, none⟩) s.2.2.enc.length ec) s.2.2.enc.length (ein s.2.2.enc)
  hb : B ≤ gt ∧ B ≤ gm
section
variable {B gt gm : Nat} {w w' : World} {s : St3} {gv vc ge ec gv' vc' ge' ec' : Nat}
theorem TB.later (h : TB B gt gm w s gv vc ge ec) (l : Later w w') : TB B gt gm w' s gv vc ge ec := ⟨h.bs.later l, h.bl.later l, own_later h.ov l, own_later h.oe l, h.hb⟩
/-- A cell of another block is written. -/
theorem own_aside {e : TypeId} {size n c g q k : Nat} {xs : List Value} {cs : Array Value} {t : TypeId} (h : w.ownsRow B e size (.slice (some ⟨g, 0, none⟩) n c) n xs) (hb : Blk w q cs t) (ht : e ≠ t) (v : Value) : (w.setCell ⟨q, k, none⟩ v).ownsRow B e size (.slice (some ⟨g, 0, none⟩) n c) n xs := by
  obtain ⟨cu, hcu⟩ := own_typ h
  exact own_apart h (only_setCell (g := q) (World.grownBy.refl _ _) (.inl rfl) v) (fun p hp e => by injection hp with hp; injection e with e; exact ne_typ hcu hb ht (hp.trans e))
theorem TB.last (h : TB B gt gm w s gv vc ge ec) (x : Int) : TB B gt gm (w.setCell ⟨gt, 1, none⟩ (.int .i64 x)) (s.1, x, s.2.2) gv vc ge ec := by
  have n1 : gm ≠ gt := ne_typ h.bl h.bs (by decide)
  exact ⟨h.bs.set_ 1 _, h.bl.far (by exact n1) _, own_aside h.ov h.bs (by decide) _, own_aside h.oe h.bs (by decide) _, h.hb⟩
theorem TB.lay (h : TB B gt gm w s gv vc ge ec) (k : Nat) (v : Value) (m : Lay4) (hm : m.enc = s.2.2.enc) (hb : (#[.int .i64 s.2.2.sb, .int .i64 s.2.2.pb, .int .i64 s.2.2.parts, .slice (some ⟨ge, 0, none⟩) s.2.2.enc.length ec] : Array Value).setIfInBounds k v = #[.int .i64 m.sb, .int .i64 m.pb, .int .i64 m.parts, .slice (some ⟨ge, 0, none⟩) m.enc.length ec]) : TB B gt gm (w.setCell ⟨gm, k, none⟩ v) (s.1, s.2.1, m) gv vc ge ec := by
  have n1 : gt ≠ gm := ne_typ h.bs h.bl (by decide)
  have b := h.bl.set_ k v
  rw [hb] at b
  refine ⟨h.bs.far (by exact n1) _, b, own_aside h.ov h.bl (by decide) _, ?_, h.hb⟩
  show World.ownsRow _ B 3 1 (.slice (some ⟨ge, 0, none⟩) m.enc.length ec) m.enc.length (ein m.enc)
  rw [hm]; exact own_aside h.oe h.bl (by decide) _
/-- The columns' slice is another. -/
theorem TB.cols (h : TB B gt gm w s gv vc ge ec) (l : List Col3) (o : w'.ownsRow B 59 3 (.slice (some ⟨gv', 0, none⟩) l.length vc') l.length (fc l)) {q : Nat} (g : w.grownBy w' (some q)) {cq : Array Value} (hq : Blk w q cq 59) :
    TB B gt gm (w'.setCell ⟨gt, 0, none⟩ (.slice (some ⟨gv', 0, none⟩) l.length vc')) (l, s.2) gv' vc' ge ec := by
  obtain ⟨cu, hcu⟩ := own_typ h.oe
  have n1 : gt ≠ q := ne_typ h.bs hq (by decide)
  have n2 : gm ≠ q := ne_typ h.bl hq (by decide)
  have n3 : ge ≠ q := ne_typ hcu hq (by decide)
  have b1 : Blk w' gt _ _ := (g.block gt h.bs.lt (fun e => by injection e with e; exact n1 e)).trans h.bs
  have b2 : Blk w' gm _ _ := (g.block gm h.bl.lt (fun e => by injection e with e; exact n2 e)).trans h.bl
  have e2 := own_apart h.oe g (fun p hp e => by injection hp with hp; injection e with e; exact n3 (hp.trans e))
  have n4 : gm ≠ gt := ne_typ h.bl h.bs (by decide)
  exact ⟨b1.set_ 0 _, b2.far (by exact n4) _, own_aside o b1 (by decide) _, own_aside e2 b1 (by decide) _, h.hb⟩
/-- The encodings' slice is another. -/
theorem TB.encs (h : TB B gt gm w s gv vc ge ec) (l : List Int) (o : w'.ownsRow B 3 1 (.slice (some ⟨ge', 0, none⟩) l.length ec') l.length (ein l)) {q : Nat} (g : w.grownBy w' (some q)) {cq : Array Value} (hq : Blk w q cq 3) :
    TB B gt gm (w'.setCell ⟨gm, 3, none⟩ (.slice (some ⟨ge', 0, none⟩) l.length ec')) (s.1, s.2.1, { s.2.2 with enc := l }) gv vc ge' ec' := by
  obtain ⟨cu, hcu⟩ := own_typ h.ov
  have n1 : gt ≠ q := ne_typ h.bs hq (by decide)
  have n2 : gm ≠ q := ne_typ h.bl hq (by decide)
  have n3 : gv ≠ q := ne_typ hcu hq (by decide)
  have b1 : Blk w' gt _ _ := (g.block gt h.bs.lt (fun e => by injection e with e; exact n1 e)).trans h.bs
  have b2 : Blk w' gm _ _ := (g.block gm h.bl.lt (fun e => by injection e with e; exact n2 e)).trans h.bl
  have e2 := own_apart h.ov g (fun p hp e => by injection hp with hp; injection e with e; exact n3 (hp.trans e))
  have n4 : gt ≠ gm := ne_typ h.bs h.bl (by decide)
  exact ⟨b1.far (by exact n4) _, b2.set_ 3 _, own_aside e2 b2 (by decide) _, own_aside o b2 (by decide) _, h.hb⟩
theorem TB.encSet (h : TB B gt gm w s gv vc ge ec) (i : Nat) (x : Int) : TB B gt gm (w.setCell ⟨ge, i, none⟩ (.int .i64 x)) (s.1, s.2.1, { s.2.2 with enc := s.2.2.enc.set i x }) gv vc ge ec := by
  obtain ⟨h1, h2⟩ := h.oe.stored i (.int .i64 x)
  have hl : (s.2.2.enc.set i x).length = s.2.2.enc.length := List.length_set
  obtain ⟨ce, hce⟩ := own_typ h.oe
  obtain ⟨cv, hcv⟩ := own_typ h.ov
  refine ⟨h.bs.far (by exact ne_typ h.bs hce (by decide)) _, ?_, own_apart h.ov h2 (fun p hp e => by injection hp with hp; injection e with e; exact ne_typ hcv hce (by decide) (hp.trans e)), ?_, h.hb⟩
  · show Blk _ gm #[.int .i64 s.2.2.sb, .int .i64 s.2.2.pb, .int .i64 s.2.2.parts, .slice (some ⟨ge, 0, none⟩) (s.2.2.enc.set i x).length ec] _
    rw [hl]; exact h.bl.far (by exact ne_typ h.bl hce (by decide)) _
  · show World.ownsRow _ B 3 1 (.slice (some ⟨ge, 0, none⟩) (s.2.2.enc.set i x).length ec) (s.2.2.enc.set i x).length (ein (s.2.2.enc.set i x))
    rw [hl, ← ein_set]; exact h1
theorem TB.colSet (h : TB B gt gm w s gv vc ge ec) (o : Nat) (v : Value) (l : List Col3) (hl : l.length = s.1.length) (hc : (fc s.1).set o v = fc l) : TB B gt gm (w.setCell ⟨gv, o, none⟩ v) (l, s.2) gv vc ge ec := by
  obtain ⟨h1, h2⟩ := h.ov.stored o v
  obtain ⟨ce, hce⟩ := own_typ h.oe
  obtain ⟨cv, hcv⟩ := own_typ h.ov
  refine ⟨?_, h.bl.far (by exact ne_typ h.bl hcv (by decide)) _, ?_, own_apart h.oe h2 (fun p hp e => by injection hp with hp; injection e with e; exact ne_typ hce hcv (by decide) (hp.trans e)), h.hb⟩
  · show Blk _ gt #[.slice (some ⟨gv, 0, none⟩) l.length vc, .int .i64 s.2.1] _
    rw [hl]; exact h.bs.far (by exact ne_typ h.bs hcv (by decide)) _
  · show World.ownsRow _ B 59 3 (.slice (some ⟨gv, 0, none⟩) l.length vc) l.length (fc l)
    rw [hl, ← hc]; exact h1
theorem TB.vlo (h : TB B gt gm w s gv vc ge ec) : B ≤ gv := (own_capG h.ov).2.2.1
theorem TB.elo (h : TB B gt gm w s gv vc ge ec) : B ≤ ge := (own_capG h.oe).2.2.1
theorem TB.col (h : TB B gt gm w s gv vc ge ec) (i : Nat) (hi : i < s.1.length) : w.cell? ⟨gv, i * 3, none⟩ = some (.int .i64 s.1[i].1) ∧ w.cell? ⟨gv, i * 3 + 1, none⟩ = some (.string s.1[i].2.1) ∧ w.cell? ⟨gv, i * 3 + 2, none⟩ = some (.int .i64 s.1[i].2.2) ∧ w.frozen? ⟨gv, i * 3 + 1, none⟩ = false ∧ w.frozen? ⟨gv, i * 3 + 2, none⟩ = false := by
  obtain ⟨b, o, hA, h0, h1, h2⟩ := (Has.ownG h.ov).col3 i hi
  injection hA with hA
  injection hA with e1 e2
  subst e1 e2
  rw [Nat.zero_add] at h0 h1 h2
  exact ⟨h0, h1, h2, h.ov.frozenAt _, h.ov.frozenAt _⟩
theorem TB.encCell (h : TB B gt gm w s gv vc ge ec) (i : Nat) (hi : i < s.2.2.enc.length) : (∃ u, w.cell? ⟨ge, i, none⟩ = some u) ∧ w.frozen? ⟨ge, i, none⟩ = false :=
  have h1 := own_capG h.oe
  ⟨Option.isSome_iff_exists.1 (h1.2.2.2.2 i (by omega)), h.oe.frozenAt i⟩
theorem TB.has (h : TB B gt gm w s gv vc ge ec) : Has w (some ⟨gv, 0, none⟩) (fc s.1) := Has.ownG h.ov
end
theorem lsetB {w0 w : World} (g k : Nat) (v : Value) (hg : w0.heap.size ≤ g) (l : Later w0 w) : Later w0 (w.setCell ⟨g, k, none⟩ v) := Later.set_ l hg v
/-- What a deed makes of it. -/
def RTurnP (W0 : World) (gt gm : Nat) (o : Except Int St3) (e : Ending) (w' : World) : Prop :=
  Later W0 w' ∧ ((∃ n, o = .error n ∧ n ∈ [(1 : Int), 3, 4, 6, 9] ∧ e = .returned (.int .i64 n)) ∨ (∃ s' gv vc ge ec, o = .ok s' ∧ e = .returned (.int .i64 0) ∧ TB W0.heap.size gt gm w' s' gv vc ge ec))
theorem RTurnP.no {W0 : World} {gt gm : Nat} {o : Except Int St3} {w' : World} (n : Int) (ho : o = .error n) (hn : n ∈ [(1 : Int), 3, 4, 6, 9]) (l : Later W0 w') : RTurnP W0 gt gm o (.returned (.int .i64 n)) w' := ⟨l, .inl ⟨n, ho, hn, rfl⟩⟩
theorem RTurnP.yes {W0 : World} {gt gm : Nat} {o : Except Int St3} {w' : World} {s' : St3} {gv vc ge ec : Nat} (ho : o = .ok s') (h : TB W0.heap.size gt gm w' s' gv vc ge ec) (l : Later W0 w') : RTurnP W0 gt gm o (.returned (.int .i64 0)) w' := ⟨l, .inr ⟨s', gv, vc, ge, ec, ho, rfl, h⟩⟩
/-- What a statement 'at, is := ByID(..)' leaves. -/
theorem isS_some {α : Type} {o : Option α} (h : o.isSome = true) : ∃ x, o = some x := Option.isSome_iff_exists.1 h
end Go.Proofs.YtklohbglkbhjhaaDoor
