
import Derived.Test.YtklohbglkbhjhaaDoorRApT
import Derived.Test.YtklohbglkbhjhaaDoorRApD
import Derived.Test.YtklohbglkbhjhaaDoorRApL
import Derived.Test.YtklohbglkbhjhaaDoorIdsM
import Derived.Test.YtklohbglkbhjhaaDoorRowsM
import Derived.Test.YtklohbglkbhjhaaDoorBase
import Derived.Test.YtklohbglkbhjhaaDoorChgE
import Derived.Test.YtklohbglkbhjhaaDoorPlayV
import Derived.Test.YtklohbglkbhjhaaDoorPlayN
import Derived.Test.YtklohbglkbhjhaaDoorSchC
import Derived.Test.YtklohbglkbhjhaaDoorRefSch
import Derived.Test.YtklohbglkbhjhaaDoorPlayS
import Derived.Test.YtklohbglkbhjhaaDoorRApA
import Derived.Test.YtklohbglkbhjhaaDoorSchA
import Derived.WalkKit
import Derived.Laws.OwnMore
import Derived.Laws.BytesArg
import Derived.Laws.Rows
import Derived.Deep.AppendLies
import Derived.Deep.Draws
import Derived.Test.YtklohbglkbhjhaaDoorChecked
import Derived.Deep.OwnRows
import Derived.Lib.Hide
import Derived.Deep.Quiet
import Derived.Laws.AppendOwnNone
import Derived.Lib.Strings
import Derived.Outline
import Derived.WalkLawsBesides
import Derived.WalkSpells
import Derived.PlainAid
import Derived.Deep.QuietTactic
import Derived.BigQuiet
import Derived.RegionTactic
import Derived.BigRegion
import Derived.Handy
import Derived.Laws.BitsAllLaws
import Derived.Deep.RegionWith
import Derived.Lib.AppendStr
import Derived.Deep.RegionLaw
import Derived.Maps.AppendAt
import Derived.OpenShut
import Derived.WideShapes
import Derived.ChangeArms
import Derived.Deep.Slices
import Derived.Sort.Grow
import Derived.Lib.SliceRun
import Derived.Shelf.Spec.SlicesInsert
import Derived.Lib.Overlaps
import Derived.Lib.AppendZerosOnto
import Derived.OrdersHeld
import Derived.LaidEql
import Derived.Stop.Asserts
import Derived.RowKitTokens
import Derived.Stop.IfaceNil
import Derived.Laws.BitsLemmas
import Derived.Laws.Bits64
import Derived.WalkSmall
import Derived.Lib.Bytealg
import Derived.Deep.SlicePairs
import Derived.Deep.CutBlock
import Derived.Shelf.Abstract
import Derived.Lib.QuietBelow
import Derived.Deep.CutRange
import Derived.Deep.MidRow
/- The document's Apply. (tools/gen_rapply.py) -/




namespace Go.Proofs.YtklohbglkbhjhaaDoor
open Go.RowKit
set_option linter.unusedVariables false

theorem own_fills {w : World} {B : Nat} {e : TypeId} {size n : Nat} {v : Value} {xs : List Value} {q : Nat} {k : Nat} (h : w.ownsRow B e size v n xs) (hq : q < B) (vs : List Value) : (w.setCells q k vs).ownsRow B e size v n xs :=
  own_block h fun p hp => (setCells_only (w := w) vs k).block p (own_at h hp).2 (fun e => by injection e with e; have := (own_at h hp).1; omega)
/-- What the document's Apply answers. -/
def RApP (s : St3) (c : Chg) (w : World) (e : Ending) (w' : World) : Prop :=
  Later w w' ∧ ((∃ n, applyM s c = .error n ∧ n ∈ [(1 : Int), 3, 4, 6, 9] ∧ e = .returned (.tuple #[.agg #[.slice none 0 0, .int .i64 0], .agg #[.int .i64 0, .int .i64 0, .int .i64 0, .slice none 0 0], .int .i64 n])) ∨
    (∃ s' gv vc ge ec, applyM s c = .ok s' ∧ e = .returned (.tuple #[.agg #[.slice (some ⟨gv, 0, none⟩) s'.1.length vc, .int .i64 s'.2.1], .agg #[.int .i64 s'.2.2.sb, .int .i64 s'.2.2.pb, .int .i64 s'.2.2.parts, .slice (some ⟨ge, 0, none⟩) s'.2.2.enc.length ec], .int .i64 0]) ∧
      w'.ownsRow w.heap.size 59 3 (.slice (some ⟨gv, 0, none⟩) s'.1.length vc) s'.1.length (fc s'.1) ∧ w'.ownsRow w.heap.size 3 1 (.slice (some ⟨ge, 0, none⟩) s'.2.2.enc.length ec) s'.2.2.enc.length (ein s'.2.2.enc)))

set_option maxRecDepth 100000 in
set_option maxHeartbeats 8000000 in
theorem refApply_any (A E : Option Addr) (vc0 ec0 : Nat) (s : St3) (c : Chg) (w : World) (hr : Has w A (fc s.1)) (hE : Has w E (ein s.2.2.enc)) (hl : s.1.length ≤ 1000) (hel : s.2.2.enc.length ≤ 1000) (hnm : ∀ x ∈ s.1, x.2.1.size ≤ 9223372036854775807) (hcn : c.name.size ≤ 9223372036854775807) (hA : A = none → vc0 = 0) (hEn : E = none → ec0 = 0) :
    Calls Tryd.prog 15 #[.agg #[.slice A s.1.length vc0, .int .i64 s.2.1], .agg #[.int .i64 s.2.2.sb, .int .i64 s.2.2.pb, .int .i64 s.2.2.parts, .slice E s.2.2.enc.length ec0], .agg #[.int .i64 c.kind, .int .i64 c.col, .string c.name, .int .i64 c.typ, .int .i64 c.val.1, .int .i64 c.val.2.1, .string c.val.2.2, .int .u8 c.sep, .int .i64 c.num]] w (RApP s c w) := by
  obtain ⟨q, hq⟩ : ∃ x, w.heap.size = x := ⟨_, rfl⟩
  obtain ⟨w1, hw1⟩ : ∃ x : World, ((((w.alloc (.cells #[.slice A s.1.length vc0, .int .i64 s.2.1] 24)).alloc (.cells #[.int .i64 s.2.2.sb, .int .i64 s.2.2.pb, .int .i64 s.2.2.parts, .slice E s.2.2.enc.length ec0] 27)).alloc (.cells #[.int .i64 c.kind, .int .i64 c.col, .string c.name, .int .i64 c.typ, .int .i64 c.val.1, .int .i64 c.val.2.1, .string c.val.2.2, .int .u8 c.sep, .int .i64 c.num] 31)).alloc (.cells #[.slice none 0 0, .int .i64 0] 24)).alloc (.cells #[.int .i64 0, .int .i64 0, .int .i64 0, .slice none 0 0] 27) = x := ⟨_, rfl⟩
  have l1 : Later w w1 := hw1 ▸ ((((Later.new w _).alloc _).alloc _).alloc _).alloc _
  have HB0 := Lib.hid (show Blk w1 q #[.slice A s.1.length vc0, .int .i64 s.2.1] 24 from hw1 ▸ ((((Blk.new w _ _ _ hq.symm).later (Later.new _ _)).later (Later.new _ _)).later (Later.new _ _)).later (Later.new _ _))
  have HB1 := Lib.hid (show Blk w1 (q + 1) #[.int .i64 s.2.2.sb, .int .i64 s.2.2.pb, .int .i64 s.2.2.parts, .slice E s.2.2.enc.length ec0] 27 from hw1 ▸ (((Blk.new _ _ _ _ (by simp; omega)).later (Later.new _ _)).later (Later.new _ _)).later (Later.new _ _))
  have HB2 := Lib.hid (show Blk w1 (q + 2) #[.int .i64 c.kind, .int .i64 c.col, .string c.name, .int .i64 c.typ, .int .i64 c.val.1, .int .i64 c.val.2.1, .string c.val.2.2, .int .u8 c.sep, .int .i64 c.num] 31 from hw1 ▸ ((Blk.new _ _ _ _ (by simp; omega)).later (Later.new _ _)).later (Later.new _ _))
  have HB3 := Lib.hid (show Blk w1 (q + 3) #[.slice none 0 0, .int .i64 0] 24 from hw1 ▸ (Blk.new _ _ _ _ (by simp; omega)).later (Later.new _ _))
  have HB4 := Lib.hid (show Blk w1 (q + 4) #[.int .i64 0, .int .i64 0, .int .i64 0, .slice none 0 0] 27 from hw1 ▸ Blk.new _ _ _ _ (by simp; omega))
  have HL1 := Lib.hid l1
  have HR1 := Lib.hid (hr.later l1)
  have HE1 := Lib.hid (hE.later l1)
  have HNM := Lib.hid hnm
  have HCN := Lib.hid hcn
  have HSZ := Lib.hid (show q + 5 ≤ w1.heap.size from HB4.out.lt)
  have HQ := Lib.hid hq
  have HW1 := Lib.hid hw1
  have HAN := Lib.hid hA
  have HEN := Lib.hid hEn
  have HM1 := Lib.hid (refMay_any A s.1.length vc0 s.2.1 s.1 w1 rfl (by omega) (hr.later l1) hnm)
  have HEL := Lib.hid (show s.1.length ≤ 1000 ∧ s.2.2.enc.length ≤ 1000 from ⟨hl, hel⟩)
  have e0 := HB0.out.cell 0 _ rfl
  have e1 := HB0.out.cell 1 _ rfl
  clear l1 hr hE hnm hcn hA hEn hq hw1 hl hel
  go_enter Tryd.func15, Tryd.ntmps15
  go_wp2_with fail
  rw [HW1.out]
  try simp only [HQ.out]
  clear HW1
  refine HM1.out.mono ?_
  clear HM1
  by_cases hm : MayS s.1 s.2.1
  rotate_left
  · have HX := Lib.hid (show applyM s c = .error 1 from if_neg (fun h => hm h.1))
    have HH := Lib.hid hm
    clear hm e0 e1
    rintro e w2 ht
    obtain ⟨rfl, l2⟩ := ht.no HH.out
    have LX := Lib.hid l2
    clear ht l2
    have HF3 := Lib.hid (show Blk w2 (q + 3) #[.slice none 0 0, .int .i64 0] 24 from HB3.out.later LX.out)
    have HF4 := Lib.hid (show Blk w2 (q + 4) #[.int .i64 0, .int .i64 0, .int .i64 0, .slice none 0 0] 27 from HB4.out.later LX.out)
    have HLF := Lib.hid (HL1.out.trans LX.out)
    obtain ⟨x0, hx0⟩ : ∃ x, w2.setCell ⟨q + 3, 0, none⟩ (.slice none 0 0) = x := ⟨_, rfl⟩
    have c0 := Blk.cell (HF3.out) 0 _ rfl
    have z0 := Blk.frozen (HF3.out) 0
    have g0_3 : Blk x0 (q + 3) #[.slice none 0 0, .int .i64 0] 24 := hx0 ▸ Blk.set_ (HF3.out) 0 _
    have g0_4 : Blk x0 (q + 4) #[.int .i64 0, .int .i64 0, .int .i64 0, .slice none 0 0] 27 := hx0 ▸ Blk.far (HF4.out) (by show q + 4 ≠ q + 3; omega) _
    obtain ⟨x1, hx1⟩ : ∃ x, x0.setCell ⟨q + 3, 1, none⟩ (.int .i64 0) = x := ⟨_, rfl⟩
    have c1 := Blk.cell (g0_3) 1 _ rfl
    have z1 := Blk.frozen (g0_3) 1
    have g1_3 : Blk x1 (q + 3) #[.slice none 0 0, .int .i64 0] 24 := hx1 ▸ Blk.set_ (g0_3) 1 _
    have g1_4 : Blk x1 (q + 4) #[.int .i64 0, .int .i64 0, .int .i64 0, .slice none 0 0] 27 := hx1 ▸ Blk.far (g0_4) (by show q + 4 ≠ q + 3; omega) _
    obtain ⟨x2, hx2⟩ : ∃ x, x1.setCell ⟨q + 4, 0, none⟩ (.int .i64 0) = x := ⟨_, rfl⟩
    have c2 := Blk.cell (g1_4) 0 _ rfl
    have z2 := Blk.frozen (g1_4) 0
    have g2_4 : Blk x2 (q + 4) #[.int .i64 0, .int .i64 0, .int .i64 0, .slice none 0 0] 27 := hx2 ▸ Blk.set_ (g1_4) 0 _
    have g2_3 : Blk x2 (q + 3) #[.slice none 0 0, .int .i64 0] 24 := hx2 ▸ Blk.far (g1_3) (by show q + 3 ≠ q + 4; omega) _
    obtain ⟨x3, hx3⟩ : ∃ x, x2.setCell ⟨q + 4, 1, none⟩ (.int .i64 0) = x := ⟨_, rfl⟩
    have c3 := Blk.cell (g2_4) 1 _ rfl
    have z3 := Blk.frozen (g2_4) 1
    have g3_4 : Blk x3 (q + 4) #[.int .i64 0, .int .i64 0, .int .i64 0, .slice none 0 0] 27 := hx3 ▸ Blk.set_ (g2_4) 1 _
    have g3_3 : Blk x3 (q + 3) #[.slice none 0 0, .int .i64 0] 24 := hx3 ▸ Blk.far (g2_3) (by show q + 3 ≠ q + 4; omega) _
    obtain ⟨x4, hx4⟩ : ∃ x, x3.setCell ⟨q + 4, 2, none⟩ (.int .i64 0) = x := ⟨_, rfl⟩
    have c4 := Blk.cell (g3_4) 2 _ rfl
    have z4 := Blk.frozen (g3_4) 2
    have g4_4 : Blk x4 (q + 4) #[.int .i64 0, .int .i64 0, .int .i64 0, .slice none 0 0] 27 := hx4 ▸ Blk.set_ (g3_4) 2 _
    have g4_3 : Blk x4 (q + 3) #[.slice none 0 0, .int .i64 0] 24 := hx4 ▸ Blk.far (g3_3) (by show q + 3 ≠ q + 4; omega) _
    obtain ⟨x5, hx5⟩ : ∃ x, x4.setCell ⟨q + 4, 3, none⟩ (.slice none 0 0) = x := ⟨_, rfl⟩
    have c5 := Blk.cell (g4_4) 3 _ rfl
    have z5 := Blk.frozen (g4_4) 3
    have g5_4 : Blk x5 (q + 4) #[.int .i64 0, .int .i64 0, .int .i64 0, .slice none 0 0] 27 := hx5 ▸ Blk.set_ (g4_4) 3 _
    have g5_3 : Blk x5 (q + 3) #[.slice none 0 0, .int .i64 0] 24 := hx5 ▸ Blk.far (g4_3) (by show q + 3 ≠ q + 4; omega) _
    have r0 := g5_3.cell 0 _ rfl
    have r1 := g5_3.cell 1 _ rfl
    have r2 := g5_4.cell 0 _ rfl
    have r3 := g5_4.cell 1 _ rfl
    have r4 := g5_4.cell 2 _ rfl
    have r5 := g5_4.cell 3 _ rfl
    have q3 : w.heap.size ≤ q + 3 := by have := HQ.out; omega
    have q4 : w.heap.size ≤ q + 4 := by have := HQ.out; omega
    have HLF2 := Lib.hid (show Later w x5 from hx5 ▸ hx4 ▸ hx3 ▸ hx2 ▸ hx1 ▸ hx0 ▸ (((((HLF.out.set_ q3 _).set_ q3 _).set_ q4 _).set_ q4 _).set_ q4 _).set_ q4 _)
    clear g0_3 g0_4 g1_3 g1_4 g2_3 g2_4 g3_3 g3_4 g4_3 g4_4 g5_3 g5_4 HF3 HF4 q3 q4
    go_wp2_with fail
    exact bodyPost_ret (v := .tuple #[.agg #[.slice none 0 0, .int .i64 0], .agg #[.int .i64 0, .int .i64 0, .int .i64 0, .slice none 0 0], .int .i64 1]) (by simp [results, Tryd.results15, go_sem, r0, r1, r2, r3, r4, r5]) rfl ⟨HLF2.out, .inl ⟨1, HX.out, by decide, rfl⟩⟩
  have HH := Lib.hid hm
  clear hm e0 e1
  rintro e w2 ht
  obtain ⟨rfl, l2⟩ := ht.yes HH.out
  have e0 := (HB0.out.later l2).cell 0 _ rfl
  have e1 := (HB0.out.later l2).cell 1 _ rfl
  have f0 := (HB1.out.later l2).cell 0 _ rfl
  have f1 := (HB1.out.later l2).cell 1 _ rfl
  have f2 := (HB1.out.later l2).cell 2 _ rfl
  have f3 := (HB1.out.later l2).cell 3 _ rfl
  have HM2 := Lib.hid (show Calls Tryd.prog 21 #[.agg #[.slice A s.1.length vc0, .int .i64 s.2.1], .agg #[.int .i64 s.2.2.sb, .int .i64 s.2.2.pb, .int .i64 s.2.2.parts, .slice E s.2.2.enc.length ec0]] w2 (TellsP (MayLy s.1 s.2.2) w2) from refMayLayout_any A E s.1.length vc0 s.2.2.enc.length ec0 s.2.1 s.1 s.2.2 w2 rfl rfl (by have := HEL.out; omega) (by have := HEL.out; omega) (HR1.out.later l2) (HE1.out.later l2))
  have L2 := Lib.hid l2
  clear ht l2
  go_wp2_with fail
  refine HM2.out.mono ?_
  clear HM2 e0 e1 f0 f1 f2 f3
  by_cases hy : MayLy s.1 s.2.2
  rotate_left
  · have HX := Lib.hid (show applyM s c = .error 1 from if_neg (fun h => hy h.2))
    have HHY := Lib.hid hy
    clear hy
    rintro e w3 ht
    obtain ⟨rfl, l3⟩ := ht.no HHY.out
    have LX := Lib.hid (L2.out.trans l3)
    clear ht l3
    have HF3 := Lib.hid (show Blk w3 (q + 3) #[.slice none 0 0, .int .i64 0] 24 from HB3.out.later LX.out)
    have HF4 := Lib.hid (show Blk w3 (q + 4) #[.int .i64 0, .int .i64 0, .int .i64 0, .slice none 0 0] 27 from HB4.out.later LX.out)
    have HLF := Lib.hid (HL1.out.trans LX.out)
    obtain ⟨x0, hx0⟩ : ∃ x, w3.setCell ⟨q + 3, 0, none⟩ (.slice none 0 0) = x := ⟨_, rfl⟩
    have c0 := Blk.cell (HF3.out) 0 _ rfl
    have z0 := Blk.frozen (HF3.out) 0
    have g0_3 : Blk x0 (q + 3) #[.slice none 0 0, .int .i64 0] 24 := hx0 ▸ Blk.set_ (HF3.out) 0 _
    have g0_4 : Blk x0 (q + 4) #[.int .i64 0, .int .i64 0, .int .i64 0, .slice none 0 0] 27 := hx0 ▸ Blk.far (HF4.out) (by show q + 4 ≠ q + 3; omega) _
    obtain ⟨x1, hx1⟩ : ∃ x, x0.setCell ⟨q + 3, 1, none⟩ (.int .i64 0) = x := ⟨_, rfl⟩
    have c1 := Blk.cell (g0_3) 1 _ rfl
    have z1 := Blk.frozen (g0_3) 1
    have g1_3 : Blk x1 (q + 3) #[.slice none 0 0, .int .i64 0] 24 := hx1 ▸ Blk.set_ (g0_3) 1 _
    have g1_4 : Blk x1 (q + 4) #[.int .i64 0, .int .i64 0, .int .i64 0, .slice none 0 0] 27 := hx1 ▸ Blk.far (g0_4) (by show q + 4 ≠ q + 3; omega) _
    obtain ⟨x2, hx2⟩ : ∃ x, x1.setCell ⟨q + 4, 0, none⟩ (.int .i64 0) = x := ⟨_, rfl⟩
    have c2 := Blk.cell (g1_4) 0 _ rfl
    have z2 := Blk.frozen (g1_4) 0
    have g2_4 : Blk x2 (q + 4) #[.int .i64 0, .int .i64 0, .int .i64 0, .slice none 0 0] 27 := hx2 ▸ Blk.set_ (g1_4) 0 _
    have g2_3 : Blk x2 (q + 3) #[.slice none 0 0, .int .i64 0] 24 := hx2 ▸ Blk.far (g1_3) (by show q + 3 ≠ q + 4; omega) _
    obtain ⟨x3, hx3⟩ : ∃ x, x2.setCell ⟨q + 4, 1, none⟩ (.int .i64 0) = x := ⟨_, rfl⟩
    have c3 := Blk.cell (g2_4) 1 _ rfl
    have z3 := Blk.frozen (g2_4) 1
    have g3_4 : Blk x3 (q + 4) #[.int .i64 0, .int .i64 0, .int .i64 0, .slice none 0 0] 27 := hx3 ▸ Blk.set_ (g2_4) 1 _
    have g3_3 : Blk x3 (q + 3) #[.slice none 0 0, .int .i64 0] 24 := hx3 ▸ Blk.far (g2_3) (by show q + 3 ≠ q + 4; omega) _
    obtain ⟨x4, hx4⟩ : ∃ x, x3.setCell ⟨q + 4, 2, none⟩ (.int .i64 0) = x := ⟨_, rfl⟩
    have c4 := Blk.cell (g3_4) 2 _ rfl
    have z4 := Blk.frozen (g3_4) 2
    have g4_4 : Blk x4 (q + 4) #[.int .i64 0, .int .i64 0, .int .i64 0, .slice none 0 0] 27 := hx4 ▸ Blk.set_ (g3_4) 2 _
    have g4_3 : Blk x4 (q + 3) #[.slice none 0 0, .int .i64 0] 24 := hx4 ▸ Blk.far (g3_3) (by show q + 3 ≠ q + 4; omega) _
    obtain ⟨x5, hx5⟩ : ∃ x, x4.setCell ⟨q + 4, 3, none⟩ (.slice none 0 0) = x := ⟨_, rfl⟩
    have c5 := Blk.cell (g4_4) 3 _ rfl
    have z5 := Blk.frozen (g4_4) 3
    have g5_4 : Blk x5 (q + 4) #[.int .i64 0, .int .i64 0, .int .i64 0, .slice none 0 0] 27 := hx5 ▸ Blk.set_ (g4_4) 3 _
    have g5_3 : Blk x5 (q + 3) #[.slice none 0 0, .int .i64 0] 24 := hx5 ▸ Blk.far (g4_3) (by show q + 3 ≠ q + 4; omega) _
    have r0 := g5_3.cell 0 _ rfl
    have r1 := g5_3.cell 1 _ rfl
    have r2 := g5_4.cell 0 _ rfl
    have r3 := g5_4.cell 1 _ rfl
    have r4 := g5_4.cell 2 _ rfl
    have r5 := g5_4.cell 3 _ rfl
    have q3 : w.heap.size ≤ q + 3 := by have := HQ.out; omega
    have q4 : w.heap.size ≤ q + 4 := by have := HQ.out; omega
    have HLF2 := Lib.hid (show Later w x5 from hx5 ▸ hx4 ▸ hx3 ▸ hx2 ▸ hx1 ▸ hx0 ▸ (((((HLF.out.set_ q3 _).set_ q3 _).set_ q4 _).set_ q4 _).set_ q4 _).set_ q4 _)
    clear g0_3 g0_4 g1_3 g1_4 g2_3 g2_4 g3_3 g3_4 g4_3 g4_4 g5_3 g5_4 HF3 HF4 q3 q4
    go_wp2_with fail
    exact bodyPost_ret (v := .tuple #[.agg #[.slice none 0 0, .int .i64 0], .agg #[.int .i64 0, .int .i64 0, .int .i64 0, .slice none 0 0], .int .i64 1]) (by simp [results, Tryd.results15, go_sem, r0, r1, r2, r3, r4, r5]) rfl ⟨HLF2.out, .inl ⟨1, HX.out, by decide, rfl⟩⟩
  have HAP := Lib.hid (show applyM s c = changeM s c from if_pos ⟨HH.out, hy⟩)
  have HMQ := Lib.hid (mayS_iff.1 HH.out)
  have HLQ := Lib.hid (mayLy_iff.1 hy)
  have HHY := Lib.hid hy
  clear hy HH
  rintro e w3 ht
  obtain ⟨rfl, l3⟩ := ht.yes HHY.out
  have L3 := Lib.hid (L2.out.trans l3)
  clear ht l3 L2 HHY
  go_upto_region 3 with fail
  go_cut [9, 10] from 23 to 24 (fun pv qv wx => ∃ gt gm, pv = .pointer (some ⟨gt, 0, none⟩) ∧ qv = .pointer (some ⟨gm, 0, none⟩) ∧ Blk wx gt #[.slice A s.1.length vc0, .int .i64 s.2.1] 24 ∧ Blk wx gm #[.int .i64 s.2.2.sb, .int .i64 s.2.2.pb, .int .i64 s.2.2.parts, .slice E s.2.2.enc.length ec0] 27 ∧ w1.heap.size ≤ gt ∧ w1.heap.size ≤ gm ∧ Later w1 wx)
  case first => as_aux_lemma =>
    refine wp_region_K (S := (fun W : World => Later w1 W)) (R := fun a b => a = b) (fun _ => rfl) (by kernel_rfl) ?_
    obtain ⟨y0, hy0⟩ : ∃ x, (w3).drew = x := ⟨_, rfl⟩
    have ly0 : Later w3 y0 := hy0 ▸ (Later.refl w3).drew
    have hS : (fun W : World => Later w1 W) y0 := L3.out.trans ly0
    
    rw [hy0]
    clear hy0
    refine wpAnyK_take (fun _ => rfl) (fun _ _ _ h k => h.trans k) (fun _ _ h k => k ▸ h) (i := 0) (oi := { dst := some 23, op := _, type := _, pos := _, after := _, guard := _ }) (v := ?_) rfl (by kernel_rfl) (by kernel_rfl) (by kernel_rfl) (fun _ _ _ h => h) (Or.inl (Or.inl ⟨by rfl, ?_⟩)) hS ?_
    rotate_left
    focus ((intro w hSw; (try dsimp only at hSw); have e0 := (HB0.out.later hSw).cell 0 _ rfl; have e1 := (HB0.out.later hSw).cell 1 _ rfl; have f0 := (HB1.out.later hSw).cell 0 _ rfl; have f1 := (HB1.out.later hSw).cell 1 _ rfl; have f2 := (HB1.out.later hSw).cell 2 _ rfl; have f3 := (HB1.out.later hSw).cell 3 _ rfl; go_simp); (try with_reducible rfl))
    intro wq hwq
    subst hwq
    (try simp only [Act.put, List.setIfInBounds_toArray, List.set_cons_zero, List.set_cons_succ])
    refine wpAnyK_take (fun _ => rfl) (fun _ _ _ h k => h.trans k) (fun _ _ h k => k ▸ h) (i := 1) (oi := { dst := some 24, op := _, type := _, pos := _, after := _, guard := _ }) (v := ?_) rfl (by kernel_rfl) (by kernel_rfl) (by kernel_rfl) (fun _ _ _ h => h) (Or.inl (Or.inl ⟨by rfl, ?_⟩)) hS ?_
    rotate_left
    focus ((intro w hSw; (try dsimp only at hSw); have e0 := (HB0.out.later hSw).cell 0 _ rfl; have e1 := (HB0.out.later hSw).cell 1 _ rfl; have f0 := (HB1.out.later hSw).cell 0 _ rfl; have f1 := (HB1.out.later hSw).cell 1 _ rfl; have f2 := (HB1.out.later hSw).cell 2 _ rfl; have f3 := (HB1.out.later hSw).cell 3 _ rfl; go_simp); (try with_reducible rfl))
    intro wq hwq
    subst hwq
    (try simp only [Act.put, List.setIfInBounds_toArray, List.set_cons_zero, List.set_cons_succ])
    refine wpAnyK_all (rs := [2, 3]) (by kernel_rfl) (by simp) (fun i hi => ?_)
    simp only [List.mem_cons, List.not_mem_nil, or_false] at hi
    rcases hi with rfl | rfl
    · refine stepK (o := { dst := some 9, op := _, type := _, pos := _, after := _, guard := _ }) rfl (fun K hK => ?_)
      go_simp
      obtain ⟨gt, hgg⟩ : ∃ x, y0.heap.size = x := ⟨_, rfl⟩
      obtain ⟨y1, hyy⟩ : ∃ x, y0.alloc (.cells #[.slice none 0 0, .int .i64 0] 24) = x := ⟨_, rfl⟩
      have lc : Later y0 y1 := hyy ▸ Later.new _ _
      have HA := Lib.hid (show Blk y1 gt #[.slice none 0 0, .int .i64 0] 24 from hyy ▸ Blk.new _ _ _ _ hgg.symm)
      have HAG := Lib.hid (show w1.heap.size ≤ gt from hgg ▸ Later.size hS)
      replace hS : (fun W : World => Later w1 W) y1 := Later.trans hS lc
      try rw [hgg]
      rw [hyy]
      refine hK _ _ hS fun wq hwq => ?_
      subst hwq
      clear hK lc hyy hgg
      (try simp only [Act.put, List.setIfInBounds_toArray, List.set_cons_zero, List.set_cons_succ])
      refine wpAnyK_all (rs := [3]) (by kernel_rfl) (by simp) (fun i hi => ?_)
      simp only [List.mem_cons, List.not_mem_nil, or_false] at hi
      subst hi
      refine stepK (o := { dst := some 10, op := _, type := _, pos := _, after := _, guard := _ }) rfl (fun K hK => ?_)
      go_simp
      obtain ⟨gm, hgg⟩ : ∃ x, y1.heap.size = x := ⟨_, rfl⟩
      obtain ⟨y2, hyy⟩ : ∃ x, y1.alloc (.cells #[.int .i64 0, .int .i64 0, .int .i64 0, .slice none 0 0] 27) = x := ⟨_, rfl⟩
      have lc : Later y1 y2 := hyy ▸ Later.new _ _
      have HB := Lib.hid (show Blk y2 gm #[.int .i64 0, .int .i64 0, .int .i64 0, .slice none 0 0] 27 from hyy ▸ Blk.new _ _ _ _ hgg.symm)
      have HBG := Lib.hid (show w1.heap.size ≤ gm from hgg ▸ Later.size hS)
      replace hS : (fun W : World => Later w1 W) y2 := Later.trans hS lc
      try rw [hgg]
      rw [hyy]
      have HA := Lib.hid (HA.out.later lc)
      refine hK _ _ hS fun wq hwq => ?_
      subst hwq
      clear hK lc hyy hgg
      (try simp only [Act.put, List.setIfInBounds_toArray, List.set_cons_zero, List.set_cons_succ])
      have hab : gt ≠ gm := ne_typ HA.out HB.out (by decide)
      refine wpAnyK_all (rs := [4]) (by kernel_rfl) (by simp) (fun i hi => ?_)
      simp only [List.mem_cons, List.not_mem_nil, or_false] at hi
      subst hi
      refine stepK (o := { dst := none, op := _, type := _, pos := _, after := _, guard := _ }) rfl (fun K hK => ?_)
      rw [if_pos (by rfl)]
      refine wp_store_mid 24 _ _ rfl gt 0 #[.slice A s.1.length vc0, .int .i64 s.2.1] rfl rfl (fun j hj => by rw [Nat.zero_add]; have hj2 : j < 2 := hj; exact ⟨by rw [cell_of_row y2 gt j _ _ _ HA.out, Array.getElem?_eq_getElem (by exact hj2)]; rfl, HA.out.frozen j⟩) (by kernel_rfl) (by simp [Value.oneCell']) ?_
      have hA2 := Blk.fill [.slice none 0 0, .int .i64 0] [.slice A s.1.length vc0, .int .i64 s.2.1] HA.out rfl
      have hB2 := HB.out.aside hab.symm 0 [.slice A s.1.length vc0, .int .i64 s.2.1]
      have hS2 : (fun W : World => Later w1 W) (y2.setCells gt 0 [.slice A s.1.length vc0, .int .i64 s.2.1]) := Later.fill hS HAG.out 0 _
      refine hK _ _ hS2 fun wq hwq => ?_
      obtain ⟨z1, hz1⟩ : ∃ x, y2.setCells gt 0 [.slice A s.1.length vc0, .int .i64 s.2.1] = x := ⟨_, rfl⟩
      rw [hz1] at hA2 hB2 hS2
      have hz2 : z1 = wq := hz1.symm.trans hwq
      subst hz2
      clear hK hwq hz1
      (try simp only [Act.put])
      refine wpAnyK_all (rs := [5]) (by kernel_rfl) (by simp) (fun i hi => ?_)
      simp only [List.mem_cons, List.not_mem_nil, or_false] at hi
      subst hi
      refine stepK (o := { dst := none, op := _, type := _, pos := _, after := _, guard := _ }) rfl (fun K hK => ?_)
      rw [if_pos (by rfl)]
      refine wp_store_mid 27 _ _ rfl gm 0 #[.int .i64 s.2.2.sb, .int .i64 s.2.2.pb, .int .i64 s.2.2.parts, .slice E s.2.2.enc.length ec0] rfl rfl (fun j hj => by rw [Nat.zero_add]; have hj2 : j < 4 := hj; exact ⟨by rw [cell_of_row z1 gm j _ _ _ hB2, Array.getElem?_eq_getElem (by exact hj2)]; rfl, hB2.frozen j⟩) (by kernel_rfl) (by simp [Value.oneCell']) ?_
      have hB3 := Blk.fill [.int .i64 0, .int .i64 0, .int .i64 0, .slice none 0 0] [.int .i64 s.2.2.sb, .int .i64 s.2.2.pb, .int .i64 s.2.2.parts, .slice E s.2.2.enc.length ec0] hB2 rfl
      have hA3 := hA2.aside hab 0 [.int .i64 s.2.2.sb, .int .i64 s.2.2.pb, .int .i64 s.2.2.parts, .slice E s.2.2.enc.length ec0]
      have hS3 : (fun W : World => Later w1 W) (z1.setCells gm 0 [.int .i64 s.2.2.sb, .int .i64 s.2.2.pb, .int .i64 s.2.2.parts, .slice E s.2.2.enc.length ec0]) := Later.fill hS2 HBG.out 0 _
      refine hK _ _ hS3 fun wq hwq => ?_
      obtain ⟨z2, hz1⟩ : ∃ x, z1.setCells gm 0 [.int .i64 s.2.2.sb, .int .i64 s.2.2.pb, .int .i64 s.2.2.parts, .slice E s.2.2.enc.length ec0] = x := ⟨_, rfl⟩
      rw [hz1] at hA3 hB3 hS3
      have hz2 : z2 = wq := hz1.symm.trans hwq
      subst hz2
      clear hK hwq hz1
      (try simp only [Act.put])
      refine wpAnyK_done (by kernel_rfl) ?_ _
      go_wp2_with fail
      go_meet
      exact ⟨gt, gm, rfl, rfl, hA3, hB3, HAG.out, HBG.out, hS3⟩
    · refine stepK (o := { dst := some 10, op := _, type := _, pos := _, after := _, guard := _ }) rfl (fun K hK => ?_)
      go_simp
      obtain ⟨gm, hgg⟩ : ∃ x, y0.heap.size = x := ⟨_, rfl⟩
      obtain ⟨y1, hyy⟩ : ∃ x, y0.alloc (.cells #[.int .i64 0, .int .i64 0, .int .i64 0, .slice none 0 0] 27) = x := ⟨_, rfl⟩
      have lc : Later y0 y1 := hyy ▸ Later.new _ _
      have HB := Lib.hid (show Blk y1 gm #[.int .i64 0, .int .i64 0, .int .i64 0, .slice none 0 0] 27 from hyy ▸ Blk.new _ _ _ _ hgg.symm)
      have HBG := Lib.hid (show w1.heap.size ≤ gm from hgg ▸ Later.size hS)
      replace hS : (fun W : World => Later w1 W) y1 := Later.trans hS lc
      try rw [hgg]
      rw [hyy]
      refine hK _ _ hS fun wq hwq => ?_
      subst hwq
      clear hK lc hyy hgg
      (try simp only [Act.put, List.setIfInBounds_toArray, List.set_cons_zero, List.set_cons_succ])
      refine wpAnyK_all (rs := [2]) (by kernel_rfl) (by simp) (fun i hi => ?_)
      simp only [List.mem_cons, List.not_mem_nil, or_false] at hi
      subst hi
      refine stepK (o := { dst := some 9, op := _, type := _, pos := _, after := _, guard := _ }) rfl (fun K hK => ?_)
      go_simp
      obtain ⟨gt, hgg⟩ : ∃ x, y1.heap.size = x := ⟨_, rfl⟩
      obtain ⟨y2, hyy⟩ : ∃ x, y1.alloc (.cells #[.slice none 0 0, .int .i64 0] 24) = x := ⟨_, rfl⟩
      have lc : Later y1 y2 := hyy ▸ Later.new _ _
      have HA := Lib.hid (show Blk y2 gt #[.slice none 0 0, .int .i64 0] 24 from hyy ▸ Blk.new _ _ _ _ hgg.symm)
      have HAG := Lib.hid (show w1.heap.size ≤ gt from hgg ▸ Later.size hS)
      replace hS : (fun W : World => Later w1 W) y2 := Later.trans hS lc
      try rw [hgg]
      rw [hyy]
      have HB := Lib.hid (HB.out.later lc)
      refine hK _ _ hS fun wq hwq => ?_
      subst hwq
      clear hK lc hyy hgg
      (try simp only [Act.put, List.setIfInBounds_toArray, List.set_cons_zero, List.set_cons_succ])
      have hab : gt ≠ gm := ne_typ HA.out HB.out (by decide)
      refine wpAnyK_all (rs := [4]) (by kernel_rfl) (by simp) (fun i hi => ?_)
      simp only [List.mem_cons, List.not_mem_nil, or_false] at hi
      subst hi
      refine stepK (o := { dst := none, op := _, type := _, pos := _, after := _, guard := _ }) rfl (fun K hK => ?_)
      rw [if_pos (by rfl)]
      refine wp_store_mid 24 _ _ rfl gt 0 #[.slice A s.1.length vc0, .int .i64 s.2.1] rfl rfl (fun j hj => by rw [Nat.zero_add]; have hj2 : j < 2 := hj; exact ⟨by rw [cell_of_row y2 gt j _ _ _ HA.out, Array.getElem?_eq_getElem (by exact hj2)]; rfl, HA.out.frozen j⟩) (by kernel_rfl) (by simp [Value.oneCell']) ?_
      have hA2 := Blk.fill [.slice none 0 0, .int .i64 0] [.slice A s.1.length vc0, .int .i64 s.2.1] HA.out rfl
      have hB2 := HB.out.aside hab.symm 0 [.slice A s.1.length vc0, .int .i64 s.2.1]
      have hS2 : (fun W : World => Later w1 W) (y2.setCells gt 0 [.slice A s.1.length vc0, .int .i64 s.2.1]) := Later.fill hS HAG.out 0 _
      refine hK _ _ hS2 fun wq hwq => ?_
      obtain ⟨z1, hz1⟩ : ∃ x, y2.setCells gt 0 [.slice A s.1.length vc0, .int .i64 s.2.1] = x := ⟨_, rfl⟩
      rw [hz1] at hA2 hB2 hS2
      have hz2 : z1 = wq := hz1.symm.trans hwq
      subst hz2
      clear hK hwq hz1
      (try simp only [Act.put])
      refine wpAnyK_all (rs := [5]) (by kernel_rfl) (by simp) (fun i hi => ?_)
      simp only [List.mem_cons, List.not_mem_nil, or_false] at hi
      subst hi
      refine stepK (o := { dst := none, op := _, type := _, pos := _, after := _, guard := _ }) rfl (fun K hK => ?_)
      rw [if_pos (by rfl)]
      refine wp_store_mid 27 _ _ rfl gm 0 #[.int .i64 s.2.2.sb, .int .i64 s.2.2.pb, .int .i64 s.2.2.parts, .slice E s.2.2.enc.length ec0] rfl rfl (fun j hj => by rw [Nat.zero_add]; have hj2 : j < 4 := hj; exact ⟨by rw [cell_of_row z1 gm j _ _ _ hB2, Array.getElem?_eq_getElem (by exact hj2)]; rfl, hB2.frozen j⟩) (by kernel_rfl) (by simp [Value.oneCell']) ?_
      have hB3 := Blk.fill [.int .i64 0, .int .i64 0, .int .i64 0, .slice none 0 0] [.int .i64 s.2.2.sb, .int .i64 s.2.2.pb, .int .i64 s.2.2.parts, .slice E s.2.2.enc.length ec0] hB2 rfl
      have hA3 := hA2.aside hab 0 [.int .i64 s.2.2.sb, .int .i64 s.2.2.pb, .int .i64 s.2.2.parts, .slice E s.2.2.enc.length ec0]
      have hS3 : (fun W : World => Later w1 W) (z1.setCells gm 0 [.int .i64 s.2.2.sb, .int .i64 s.2.2.pb, .int .i64 s.2.2.parts, .slice E s.2.2.enc.length ec0]) := Later.fill hS2 HBG.out 0 _
      refine hK _ _ hS3 fun wq hwq => ?_
      obtain ⟨z2, hz1⟩ : ∃ x, z1.setCells gm 0 [.int .i64 s.2.2.sb, .int .i64 s.2.2.pb, .int .i64 s.2.2.parts, .slice E s.2.2.enc.length ec0] = x := ⟨_, rfl⟩
      rw [hz1] at hA3 hB3 hS3
      have hz2 : z2 = wq := hz1.symm.trans hwq
      subst hz2
      clear hK hwq hz1
      (try simp only [Act.put])
      refine wpAnyK_done (by kernel_rfl) ?_ _
      go_wp2_with fail
      go_meet
      exact ⟨gt, gm, rfl, rfl, hA3, hB3, HAG.out, HBG.out, hS3⟩
  case rest =>
  obtain ⟨gt, gm, rfl, rfl, hbt, hbm, hgt, hgm, lx⟩ := hcut
  have HBT := Lib.hid hbt
  have HBM := Lib.hid hbm
  have HGT := Lib.hid (show w1.heap.size ≤ gt ∧ w1.heap.size ≤ gm from ⟨hgt, hgm⟩)
  have L4 := Lib.hid lx
  clear hbt hbm hgt hgm lx L3
  obtain ⟨w4, hw4⟩ : ∃ x, x = wc := ⟨_, rfl⟩
  rw [← hw4] at HBT HBM L4 ⊢
  clear hw4
  go_upto_region 4 with fail
  go_cut [9] from 25 to 34 (fun pv wx => pv = .pointer (some ⟨gt, 0, none⟩) ∧ ∃ gv vc ge ec, TB w1.heap.size gt gm wx s gv vc ge ec ∧ Later w1 wx)
  case first => as_aux_lemma =>
    refine wp_region_K (S := (fun W : World => Later w1 W)) (R := fun a b => a = b) (fun _ => rfl) (by kernel_rfl) ?_
    obtain ⟨y0, hy0⟩ : ∃ x, (w4).drew = x := ⟨_, rfl⟩
    have ly0 : Later w4 y0 := hy0 ▸ (Later.refl w4).drew
    have hS : (fun W : World => Later w1 W) y0 := L4.out.trans ly0
    have HBT := Lib.hid (HBT.out.later ly0)
    have HBM := Lib.hid (HBM.out.later ly0)
    rw [hy0]
    clear hy0
    refine wpAnyK_take (fun _ => rfl) (fun _ _ _ h k => h.trans k) (fun _ _ h k => k ▸ h) (i := 1) (oi := { dst := some 26, op := _, type := _, pos := _, after := _, guard := _ }) (v := ?_) rfl (by kernel_rfl) (by kernel_rfl) (by kernel_rfl) (fun _ _ _ h => h) (Or.inl (Or.inl ⟨by rfl, ?_⟩)) hS ?_
    rotate_left
    focus ((intro w hSw; (try dsimp only at hSw); have e0 := (HB0.out.later hSw).cell 0 _ rfl; have e1 := (HB0.out.later hSw).cell 1 _ rfl; have f0 := (HB1.out.later hSw).cell 0 _ rfl; have f1 := (HB1.out.later hSw).cell 1 _ rfl; have f2 := (HB1.out.later hSw).cell 2 _ rfl; have f3 := (HB1.out.later hSw).cell 3 _ rfl; go_simp); (try with_reducible rfl))
    intro wq hwq
    subst hwq
    (try simp only [Act.put, List.setIfInBounds_toArray, List.set_cons_zero, List.set_cons_succ])
    refine wpAnyK_take (fun _ => rfl) (fun _ _ _ h k => h.trans k) (fun _ _ h k => k ▸ h) (i := 2) (oi := { dst := some 27, op := _, type := _, pos := _, after := _, guard := _ }) (v := ?_) rfl (by kernel_rfl) (by kernel_rfl) (by kernel_rfl) (fun _ _ _ h => h) (Or.inl (Or.inl ⟨by rfl, ?_⟩)) hS ?_
    rotate_left
    focus ((intro w hSw; (try dsimp only at hSw); have e0 := (HB0.out.later hSw).cell 0 _ rfl; have e1 := (HB0.out.later hSw).cell 1 _ rfl; have f0 := (HB1.out.later hSw).cell 0 _ rfl; have f1 := (HB1.out.later hSw).cell 1 _ rfl; have f2 := (HB1.out.later hSw).cell 2 _ rfl; have f3 := (HB1.out.later hSw).cell 3 _ rfl; go_simp); (try with_reducible rfl))
    intro wq hwq
    subst hwq
    (try simp only [Act.put, List.setIfInBounds_toArray, List.set_cons_zero, List.set_cons_succ])
    refine wpAnyK_take (fun _ => rfl) (fun _ _ _ h k => h.trans k) (fun _ _ h k => k ▸ h) (i := 5) (oi := { dst := some 30, op := _, type := _, pos := _, after := _, guard := _ }) (v := ?_) rfl (by kernel_rfl) (by kernel_rfl) (by kernel_rfl) (fun _ _ _ h => h) (Or.inl (Or.inl ⟨by rfl, ?_⟩)) hS ?_
    rotate_left
    focus ((intro w hSw; (try dsimp only at hSw); have e0 := (HB0.out.later hSw).cell 0 _ rfl; have e1 := (HB0.out.later hSw).cell 1 _ rfl; have f0 := (HB1.out.later hSw).cell 0 _ rfl; have f1 := (HB1.out.later hSw).cell 1 _ rfl; have f2 := (HB1.out.later hSw).cell 2 _ rfl; have f3 := (HB1.out.later hSw).cell 3 _ rfl; go_simp); (try with_reducible rfl))
    intro wq hwq
    subst hwq
    (try simp only [Act.put, List.setIfInBounds_toArray, List.set_cons_zero, List.set_cons_succ])
    refine wpAnyK_take (fun _ => rfl) (fun _ _ _ h k => h.trans k) (fun _ _ h k => k ▸ h) (i := 6) (oi := { dst := some 31, op := _, type := _, pos := _, after := _, guard := _ }) (v := ?_) rfl (by kernel_rfl) (by kernel_rfl) (by kernel_rfl) (fun _ _ _ h => h) (Or.inl (Or.inl ⟨by rfl, ?_⟩)) hS ?_
    rotate_left
    focus ((intro w hSw; (try dsimp only at hSw); have e0 := (HB0.out.later hSw).cell 0 _ rfl; have e1 := (HB0.out.later hSw).cell 1 _ rfl; have f0 := (HB1.out.later hSw).cell 0 _ rfl; have f1 := (HB1.out.later hSw).cell 1 _ rfl; have f2 := (HB1.out.later hSw).cell 2 _ rfl; have f3 := (HB1.out.later hSw).cell 3 _ rfl; go_simp); (try with_reducible rfl))
    intro wq hwq
    subst hwq
    (try simp only [Act.put, List.setIfInBounds_toArray, List.set_cons_zero, List.set_cons_succ])
    refine wpAnyK_all (rs := [0, 4]) (by kernel_rfl) (by simp) (fun i hi => ?_)
    simp only [List.mem_cons, List.not_mem_nil, or_false] at hi
    rcases hi with rfl | rfl
    · refine stepK (o := { dst := some 25, op := _, type := _, pos := _, after := _, guard := _ }) rfl (fun K hK => ?_)
      go_simp
      obtain ⟨gz, hgg⟩ : ∃ x, y0.heap.size = x := ⟨_, rfl⟩
      obtain ⟨y1, hyy⟩ : ∃ x, y0.alloc (.cells #[] 59) = x := ⟨_, rfl⟩
      have lc : Later y0 y1 := hyy ▸ Later.new _ _
      have hbn : Blk y1 gz #[] 59 := hyy ▸ Blk.new _ _ _ _ hgg.symm
      have hge : w1.heap.size ≤ gz := hgg ▸ Later.size hS
      replace hS : (fun W : World => Later w1 W) y1 := Later.trans hS lc
      try rw [hgg]
      rw [hyy]
      have HBT := Lib.hid (HBT.out.later lc)
      have HBM := Lib.hid (HBM.out.later lc)
      have HOZ := Lib.hid (Blk.ownG (cs := []) (size := 3) (n := 0) hbn hge rfl (by decide))
      refine hK _ _ hS fun wq hwq => ?_
      subst hwq
      clear hK lc hyy hgg hbn hge
      (try simp only [Act.put, List.setIfInBounds_toArray, List.set_cons_zero, List.set_cons_succ])
      refine wpAnyK_all (rs := [3, 4]) (by kernel_rfl) (by simp) (fun i hi => ?_)
      simp only [List.mem_cons, List.not_mem_nil, or_false] at hi
      rcases hi with rfl | rfl
      · refine stepK (o := { dst := some 28, op := _, type := _, pos := _, after := _, guard := _ }) rfl (fun K hK => ?_)
        refine step_append_n rfl (.tmp 25) (.tmp 27) 22 rfl w1.heap.size 59 _ 3 32 Tryd.underlying22 info_c rfl (by decide) (.slice (some ⟨gz, 0, none⟩) 0 0) 0 [] rfl HOZ.out A s.1.length vc0 (fc s.1) rfl (HR1.out.later hS) (fc_length _) HAN.out (fc_one _) (by unfold maxLen; have := HEL.out; omega) (by have := HEL.out; omega) (Later.size hS) ?_
        rintro A' c' y2 ho hgr hbl _
        (try simp only [Nat.zero_add])
        rw [Nat.zero_add, List.nil_append] at ho
        obtain ⟨gv, rfl⟩ := own_some ho (by have := HMQ.out.len; omega)
        obtain ⟨cz, hcz⟩ := own_typ HOZ.out
        have HBT := Lib.hid (grown_blk (d := gz) hgr HBT.out (ne_typ HBT.out hcz (by decide)))
        have HBM := Lib.hid (grown_blk (d := gz) hgr HBM.out (ne_typ HBM.out hcz (by decide)))
        have HO1 := Lib.hid ho
        replace hS : (fun W : World => Later w1 W) y2 := grow_later hS hgr (own_capG HOZ.out).2.2.1
        refine hK _ _ hS fun wq hwq => ?_
        subst hwq
        clear hK ho hgr hbl hcz
        (try simp only [Act.put, List.setIfInBounds_toArray, List.set_cons_zero, List.set_cons_succ])
        refine wpAnyK_all (rs := [4]) (by kernel_rfl) (by simp) (fun i hi => ?_)
        simp only [List.mem_cons, List.not_mem_nil, or_false] at hi
        subst hi
        refine stepK (o := { dst := some 29, op := _, type := _, pos := _, after := _, guard := _ }) rfl (fun K hK => ?_)
        go_simp
        obtain ⟨gy, hgg⟩ : ∃ x, y2.heap.size = x := ⟨_, rfl⟩
        obtain ⟨y3, hyy⟩ : ∃ x, y2.alloc (.cells #[] 3) = x := ⟨_, rfl⟩
        have lc : Later y2 y3 := hyy ▸ Later.new _ _
        have hbn : Blk y3 gy #[] 3 := hyy ▸ Blk.new _ _ _ _ hgg.symm
        have hge : w1.heap.size ≤ gy := hgg ▸ Later.size hS
        replace hS : (fun W : World => Later w1 W) y3 := Later.trans hS lc
        try rw [hgg]
        rw [hyy]
        have HBT := Lib.hid (HBT.out.later lc)
        have HBM := Lib.hid (HBM.out.later lc)
        have HOY := Lib.hid (Blk.ownG (cs := []) (size := 1) (n := 0) hbn hge rfl (by decide))
        have HO1 := Lib.hid (own_later HO1.out lc)
        refine hK _ _ hS fun wq hwq => ?_
        subst hwq
        clear hK lc hyy hgg hbn hge
        (try simp only [Act.put, List.setIfInBounds_toArray, List.set_cons_zero, List.set_cons_succ])
        refine wpAnyK_all (rs := [7]) (by kernel_rfl) (by simp) (fun i hi => ?_)
        simp only [List.mem_cons, List.not_mem_nil, or_false] at hi
        subst hi
        refine stepK (o := { dst := some 32, op := _, type := _, pos := _, after := _, guard := _ }) rfl (fun K hK => ?_)
        refine step_append_n rfl (.tmp 29) (.tmp 31) 25 rfl w1.heap.size 3 _ 1 8 Tryd.underlying25 info_e rfl (by decide) (.slice (some ⟨gy, 0, none⟩) 0 0) 0 [] rfl HOY.out E s.2.2.enc.length ec0 (ein s.2.2.enc) rfl (HE1.out.later hS) (by rw [ein_len, Nat.mul_one]) HEN.out (fun u hu => by obtain ⟨z, _, rfl⟩ := List.mem_map.1 hu; rfl) (by unfold maxLen; have := HEL.out; omega) (by have := HEL.out; omega) (Later.size hS) ?_
        rintro A' ce y3a ho hgr hbl _
        (try simp only [Nat.zero_add])
        rw [Nat.zero_add, List.nil_append] at ho
        obtain ⟨ge, rfl⟩ := own_some ho (by have := HMQ.out.len; have := HLQ.out.len; omega)
        obtain ⟨cy, hcy⟩ := own_typ HOY.out
        obtain ⟨cv, hcv⟩ := own_typ HO1.out
        have HBT := Lib.hid (grown_blk (d := gy) hgr HBT.out (ne_typ HBT.out hcy (by decide)))
        have HBM := Lib.hid (grown_blk (d := gy) hgr HBM.out (ne_typ HBM.out hcy (by decide)))
        have HO1 := Lib.hid (own_apart HO1.out hgr (fun p hp e => by injection hp with hp; injection e with e; exact ne_typ hcv hcy (by decide) (hp.trans e)))
        have HO2 := Lib.hid ho
        replace hS : (fun W : World => Later w1 W) y3a := grow_later hS hgr (own_capG HOY.out).2.2.1
        refine hK _ _ hS fun wq hwq => ?_
        subst hwq
        clear hK ho hgr hbl hcy hcv
        (try simp only [Act.put, List.setIfInBounds_toArray, List.set_cons_zero, List.set_cons_succ])
        refine wpAnyK_take (fun _ => rfl) (fun _ _ _ h k => h.trans k) (fun _ _ h k => k ▸ h) (i := 8) (oi := { dst := some 33, op := _, type := _, pos := _, after := _, guard := _ }) (v := ?_) rfl (by kernel_rfl) (by kernel_rfl) (by kernel_rfl) (fun _ _ _ h => h) (Or.inl (Or.inl ⟨by rfl, ?_⟩)) hS ?_
        rotate_left
        focus ((intro w hSw; (try dsimp only at hSw); skip; go_simp); (try with_reducible rfl))
        intro wq hwq
        subst hwq
        (try simp only [Act.put, List.setIfInBounds_toArray, List.set_cons_zero, List.set_cons_succ])
        refine wpAnyK_all (rs := [9]) (by kernel_rfl) (by simp) (fun i hi => ?_)
        simp only [List.mem_cons, List.not_mem_nil, or_false] at hi
        subst hi
        refine stepK (o := { dst := none, op := _, type := _, pos := _, after := _, guard := _ }) rfl (fun K hK => ?_)
        have u0 : y3a.cell? ⟨gt, 0, none⟩ = some (.slice A s.1.length vc0) := HBT.out.cell 0 _ rfl
        have u1 := HBT.out.frozen 0
        go_simp
        have hab : gm ≠ gt := ne_typ HBM.out HBT.out (by decide)
        have hA2 := HBT.out.set_ 0 (.slice (some ⟨gv, 0, none⟩) s.1.length c')
        have hB2 := HBM.out.far (p := ⟨gt, 0, none⟩) (by exact hab) (.slice (some ⟨gv, 0, none⟩) s.1.length c')
        have hO1 := own_aside (k := 0) HO1.out HBT.out (by decide) (.slice (some ⟨gv, 0, none⟩) s.1.length c')
        have hO2 := own_aside (k := 0) HO2.out HBT.out (by decide) (.slice (some ⟨gv, 0, none⟩) s.1.length c')
        have hS2 : (fun W : World => Later w1 W) (y3a.setCell ⟨gt, 0, none⟩ (.slice (some ⟨gv, 0, none⟩) s.1.length c')) := lsetB gt 0 _ HGT.out.1 hS
        refine hK _ _ hS2 fun wq hwq => ?_
        obtain ⟨z1, hz1⟩ : ∃ x, y3a.setCell ⟨gt, 0, none⟩ (.slice (some ⟨gv, 0, none⟩) s.1.length c') = x := ⟨_, rfl⟩
        rw [hz1] at hA2 hB2 hO1 hO2 hS2
        have hz2 : z1 = wq := hz1.symm.trans hwq
        subst hz2
        replace hS := hS2
        clear hK hwq hz1 u0 u1
        (try simp only [Act.put])
        refine wpAnyK_take (fun _ => rfl) (fun _ _ _ h k => h.trans k) (fun _ _ h k => k ▸ h) (i := 10) (oi := { dst := some 34, op := _, type := _, pos := _, after := _, guard := _ }) (v := ?_) rfl (by kernel_rfl) (by kernel_rfl) (by kernel_rfl) (fun _ _ _ h => h) (Or.inl (Or.inl ⟨by rfl, ?_⟩)) hS ?_
        rotate_left
        focus ((intro w hSw; (try dsimp only at hSw); skip; go_simp); (try with_reducible rfl))
        intro wq hwq
        subst hwq
        (try simp only [Act.put, List.setIfInBounds_toArray, List.set_cons_zero, List.set_cons_succ])
        refine wpAnyK_all (rs := [11]) (by kernel_rfl) (by simp) (fun i hi => ?_)
        simp only [List.mem_cons, List.not_mem_nil, or_false] at hi
        subst hi
        refine stepK (o := { dst := none, op := _, type := _, pos := _, after := _, guard := _ }) rfl (fun K hK => ?_)
        have u0 : z1.cell? ⟨gm, 3, none⟩ = some (.slice E s.2.2.enc.length ec0) := Blk.cell hB2 3 _ rfl
        have u1 := Blk.frozen hB2 3
        go_simp
        have hB3 := Blk.set_ hB2 3 (.slice (some ⟨ge, 0, none⟩) s.2.2.enc.length ce)
        have hA3 := Blk.far hA2 (p := ⟨gm, 3, none⟩) (by exact hab.symm) (.slice (some ⟨ge, 0, none⟩) s.2.2.enc.length ce)
        have hP1 := own_aside (k := 3) hO1 hB2 (by decide) (.slice (some ⟨ge, 0, none⟩) s.2.2.enc.length ce)
        have hP2 := own_aside (k := 3) hO2 hB2 (by decide) (.slice (some ⟨ge, 0, none⟩) s.2.2.enc.length ce)
        have hS3 : (fun W : World => Later w1 W) (z1.setCell ⟨gm, 3, none⟩ (.slice (some ⟨ge, 0, none⟩) s.2.2.enc.length ce)) := lsetB gm 3 _ HGT.out.2 hS
        refine hK _ _ hS3 fun wq hwq => ?_
        obtain ⟨z2, hz1⟩ : ∃ x, z1.setCell ⟨gm, 3, none⟩ (.slice (some ⟨ge, 0, none⟩) s.2.2.enc.length ce) = x := ⟨_, rfl⟩
        rw [hz1] at hA3 hB3 hP1 hP2 hS3
        have hz2 : z2 = wq := hz1.symm.trans hwq
        subst hz2
        clear hK hwq hz1 u0 u1
        (try simp only [Act.put])
        refine wpAnyK_done (by kernel_rfl) ?_ _
        go_wp2_with fail
        go_meet
        exact ⟨rfl, gv, c', ge, ce, ⟨hA3, hB3, hP1, hP2, HGT.out⟩, hS3⟩
      · refine stepK (o := { dst := some 29, op := _, type := _, pos := _, after := _, guard := _ }) rfl (fun K hK => ?_)
        go_simp
        obtain ⟨gy, hgg⟩ : ∃ x, y1.heap.size = x := ⟨_, rfl⟩
        obtain ⟨y2, hyy⟩ : ∃ x, y1.alloc (.cells #[] 3) = x := ⟨_, rfl⟩
        have lc : Later y1 y2 := hyy ▸ Later.new _ _
        have hbn : Blk y2 gy #[] 3 := hyy ▸ Blk.new _ _ _ _ hgg.symm
        have hge : w1.heap.size ≤ gy := hgg ▸ Later.size hS
        replace hS : (fun W : World => Later w1 W) y2 := Later.trans hS lc
        try rw [hgg]
        rw [hyy]
        have HBT := Lib.hid (HBT.out.later lc)
        have HBM := Lib.hid (HBM.out.later lc)
        have HOY := Lib.hid (Blk.ownG (cs := []) (size := 1) (n := 0) hbn hge rfl (by decide))
        have HOZ := Lib.hid (own_later HOZ.out lc)
        refine hK _ _ hS fun wq hwq => ?_
        subst hwq
        clear hK lc hyy hgg hbn hge
        (try simp only [Act.put, List.setIfInBounds_toArray, List.set_cons_zero, List.set_cons_succ])
        refine wpAnyK_all (rs := [3]) (by kernel_rfl) (by simp) (fun i hi => ?_)
        simp only [List.mem_cons, List.not_mem_nil, or_false] at hi
        subst hi
        refine stepK (o := { dst := some 28, op := _, type := _, pos := _, after := _, guard := _ }) rfl (fun K hK => ?_)
        refine step_append_n rfl (.tmp 25) (.tmp 27) 22 rfl w1.heap.size 59 _ 3 32 Tryd.underlying22 info_c rfl (by decide) (.slice (some ⟨gz, 0, none⟩) 0 0) 0 [] rfl HOZ.out A s.1.length vc0 (fc s.1) rfl (HR1.out.later hS) (fc_length _) HAN.out (fc_one _) (by unfold maxLen; have := HEL.out; omega) (by have := HEL.out; omega) (Later.size hS) ?_
        rintro A' c' y3 ho hgr hbl _
        (try simp only [Nat.zero_add])
        rw [Nat.zero_add, List.nil_append] at ho
        obtain ⟨gv, rfl⟩ := own_some ho (by have := HMQ.out.len; omega)
        obtain ⟨cz, hcz⟩ := own_typ HOZ.out
        have HBT := Lib.hid (grown_blk (d := gz) hgr HBT.out (ne_typ HBT.out hcz (by decide)))
        have HBM := Lib.hid (grown_blk (d := gz) hgr HBM.out (ne_typ HBM.out hcz (by decide)))
        have HO1 := Lib.hid ho
        obtain ⟨cy, hcy⟩ := own_typ HOY.out
        have HOY := Lib.hid (own_apart HOY.out hgr (fun p hp e => by injection hp with hp; injection e with e; exact ne_typ hcy hcz (by decide) (hp.trans e)))
        clear hcy
        replace hS : (fun W : World => Later w1 W) y3 := grow_later hS hgr (own_capG HOZ.out).2.2.1
        refine hK _ _ hS fun wq hwq => ?_
        subst hwq
        clear hK ho hgr hbl hcz
        (try simp only [Act.put, List.setIfInBounds_toArray, List.set_cons_zero, List.set_cons_succ])
        refine wpAnyK_all (rs := [7]) (by kernel_rfl) (by simp) (fun i hi => ?_)
        simp only [List.mem_cons, List.not_mem_nil, or_false] at hi
        subst hi
        refine stepK (o := { dst := some 32, op := _, type := _, pos := _, after := _, guard := _ }) rfl (fun K hK => ?_)
        refine step_append_n rfl (.tmp 29) (.tmp 31) 25 rfl w1.heap.size 3 _ 1 8 Tryd.underlying25 info_e rfl (by decide) (.slice (some ⟨gy, 0, none⟩) 0 0) 0 [] rfl HOY.out E s.2.2.enc.length ec0 (ein s.2.2.enc) rfl (HE1.out.later hS) (by rw [ein_len, Nat.mul_one]) HEN.out (fun u hu => by obtain ⟨z, _, rfl⟩ := List.mem_map.1 hu; rfl) (by unfold maxLen; have := HEL.out; omega) (by have := HEL.out; omega) (Later.size hS) ?_
        rintro A' ce y3a ho hgr hbl _
        (try simp only [Nat.zero_add])
        rw [Nat.zero_add, List.nil_append] at ho
        obtain ⟨ge, rfl⟩ := own_some ho (by have := HMQ.out.len; have := HLQ.out.len; omega)
        obtain ⟨cy, hcy⟩ := own_typ HOY.out
        obtain ⟨cv, hcv⟩ := own_typ HO1.out
        have HBT := Lib.hid (grown_blk (d := gy) hgr HBT.out (ne_typ HBT.out hcy (by decide)))
        have HBM := Lib.hid (grown_blk (d := gy) hgr HBM.out (ne_typ HBM.out hcy (by decide)))
        have HO1 := Lib.hid (own_apart HO1.out hgr (fun p hp e => by injection hp with hp; injection e with e; exact ne_typ hcv hcy (by decide) (hp.trans e)))
        have HO2 := Lib.hid ho
        replace hS : (fun W : World => Later w1 W) y3a := grow_later hS hgr (own_capG HOY.out).2.2.1
        refine hK _ _ hS fun wq hwq => ?_
        subst hwq
        clear hK ho hgr hbl hcy hcv
        (try simp only [Act.put, List.setIfInBounds_toArray, List.set_cons_zero, List.set_cons_succ])
        refine wpAnyK_take (fun _ => rfl) (fun _ _ _ h k => h.trans k) (fun _ _ h k => k ▸ h) (i := 8) (oi := { dst := some 33, op := _, type := _, pos := _, after := _, guard := _ }) (v := ?_) rfl (by kernel_rfl) (by kernel_rfl) (by kernel_rfl) (fun _ _ _ h => h) (Or.inl (Or.inl ⟨by rfl, ?_⟩)) hS ?_
        rotate_left
        focus ((intro w hSw; (try dsimp only at hSw); skip; go_simp); (try with_reducible rfl))
        intro wq hwq
        subst hwq
        (try simp only [Act.put, List.setIfInBounds_toArray, List.set_cons_zero, List.set_cons_succ])
        refine wpAnyK_all (rs := [9]) (by kernel_rfl) (by simp) (fun i hi => ?_)
        simp only [List.mem_cons, List.not_mem_nil, or_false] at hi
        subst hi
        refine stepK (o := { dst := none, op := _, type := _, pos := _, after := _, guard := _ }) rfl (fun K hK => ?_)
        have u0 : y3a.cell? ⟨gt, 0, none⟩ = some (.slice A s.1.length vc0) := HBT.out.cell 0 _ rfl
        have u1 := HBT.out.frozen 0
        go_simp
        have hab : gm ≠ gt := ne_typ HBM.out HBT.out (by decide)
        have hA2 := HBT.out.set_ 0 (.slice (some ⟨gv, 0, none⟩) s.1.length c')
        have hB2 := HBM.out.far (p := ⟨gt, 0, none⟩) (by exact hab) (.slice (some ⟨gv, 0, none⟩) s.1.length c')
        have hO1 := own_aside (k := 0) HO1.out HBT.out (by decide) (.slice (some ⟨gv, 0, none⟩) s.1.length c')
        have hO2 := own_aside (k := 0) HO2.out HBT.out (by decide) (.slice (some ⟨gv, 0, none⟩) s.1.length c')
        have hS2 : (fun W : World => Later w1 W) (y3a.setCell ⟨gt, 0, none⟩ (.slice (some ⟨gv, 0, none⟩) s.1.length c')) := lsetB gt 0 _ HGT.out.1 hS
        refine hK _ _ hS2 fun wq hwq => ?_
        obtain ⟨z1, hz1⟩ : ∃ x, y3a.setCell ⟨gt, 0, none⟩ (.slice (some ⟨gv, 0, none⟩) s.1.length c') = x := ⟨_, rfl⟩
        rw [hz1] at hA2 hB2 hO1 hO2 hS2
        have hz2 : z1 = wq := hz1.symm.trans hwq
        subst hz2
        replace hS := hS2
        clear hK hwq hz1 u0 u1
        (try simp only [Act.put])
        refine wpAnyK_take (fun _ => rfl) (fun _ _ _ h k => h.trans k) (fun _ _ h k => k ▸ h) (i := 10) (oi := { dst := some 34, op := _, type := _, pos := _, after := _, guard := _ }) (v := ?_) rfl (by kernel_rfl) (by kernel_rfl) (by kernel_rfl) (fun _ _ _ h => h) (Or.inl (Or.inl ⟨by rfl, ?_⟩)) hS ?_
        rotate_left
        focus ((intro w hSw; (try dsimp only at hSw); skip; go_simp); (try with_reducible rfl))
        intro wq hwq
        subst hwq
        (try simp only [Act.put, List.setIfInBounds_toArray, List.set_cons_zero, List.set_cons_succ])
        refine wpAnyK_all (rs := [11]) (by kernel_rfl) (by simp) (fun i hi => ?_)
        simp only [List.mem_cons, List.not_mem_nil, or_false] at hi
        subst hi
        refine stepK (o := { dst := none, op := _, type := _, pos := _, after := _, guard := _ }) rfl (fun K hK => ?_)
        have u0 : z1.cell? ⟨gm, 3, none⟩ = some (.slice E s.2.2.enc.length ec0) := Blk.cell hB2 3 _ rfl
        have u1 := Blk.frozen hB2 3
        go_simp
        have hB3 := Blk.set_ hB2 3 (.slice (some ⟨ge, 0, none⟩) s.2.2.enc.length ce)
        have hA3 := Blk.far hA2 (p := ⟨gm, 3, none⟩) (by exact hab.symm) (.slice (some ⟨ge, 0, none⟩) s.2.2.enc.length ce)
        have hP1 := own_aside (k := 3) hO1 hB2 (by decide) (.slice (some ⟨ge, 0, none⟩) s.2.2.enc.length ce)
        have hP2 := own_aside (k := 3) hO2 hB2 (by decide) (.slice (some ⟨ge, 0, none⟩) s.2.2.enc.length ce)
        have hS3 : (fun W : World => Later w1 W) (z1.setCell ⟨gm, 3, none⟩ (.slice (some ⟨ge, 0, none⟩) s.2.2.enc.length ce)) := lsetB gm 3 _ HGT.out.2 hS
        refine hK _ _ hS3 fun wq hwq => ?_
        obtain ⟨z2, hz1⟩ : ∃ x, z1.setCell ⟨gm, 3, none⟩ (.slice (some ⟨ge, 0, none⟩) s.2.2.enc.length ce) = x := ⟨_, rfl⟩
        rw [hz1] at hA3 hB3 hP1 hP2 hS3
        have hz2 : z2 = wq := hz1.symm.trans hwq
        subst hz2
        clear hK hwq hz1 u0 u1
        (try simp only [Act.put])
        refine wpAnyK_done (by kernel_rfl) ?_ _
        go_wp2_with fail
        go_meet
        exact ⟨rfl, gv, c', ge, ce, ⟨hA3, hB3, hP1, hP2, HGT.out⟩, hS3⟩
    · refine stepK (o := { dst := some 29, op := _, type := _, pos := _, after := _, guard := _ }) rfl (fun K hK => ?_)
      go_simp
      obtain ⟨gy, hgg⟩ : ∃ x, y0.heap.size = x := ⟨_, rfl⟩
      obtain ⟨y1, hyy⟩ : ∃ x, y0.alloc (.cells #[] 3) = x := ⟨_, rfl⟩
      have lc : Later y0 y1 := hyy ▸ Later.new _ _
      have hbn : Blk y1 gy #[] 3 := hyy ▸ Blk.new _ _ _ _ hgg.symm
      have hge : w1.heap.size ≤ gy := hgg ▸ Later.size hS
      replace hS : (fun W : World => Later w1 W) y1 := Later.trans hS lc
      try rw [hgg]
      rw [hyy]
      have HBT := Lib.hid (HBT.out.later lc)
      have HBM := Lib.hid (HBM.out.later lc)
      have HOY := Lib.hid (Blk.ownG (cs := []) (size := 1) (n := 0) hbn hge rfl (by decide))
      refine hK _ _ hS fun wq hwq => ?_
      subst hwq
      clear hK lc hyy hgg hbn hge
      (try simp only [Act.put, List.setIfInBounds_toArray, List.set_cons_zero, List.set_cons_succ])
      refine wpAnyK_all (rs := [0]) (by kernel_rfl) (by simp) (fun i hi => ?_)
      simp only [List.mem_cons, List.not_mem_nil, or_false] at hi
      subst hi
      refine stepK (o := { dst := some 25, op := _, type := _, pos := _, after := _, guard := _ }) rfl (fun K hK => ?_)
      go_simp
      obtain ⟨gz, hgg⟩ : ∃ x, y1.heap.size = x := ⟨_, rfl⟩
      obtain ⟨y2, hyy⟩ : ∃ x, y1.alloc (.cells #[] 59) = x := ⟨_, rfl⟩
      have lc : Later y1 y2 := hyy ▸ Later.new _ _
      have hbn : Blk y2 gz #[] 59 := hyy ▸ Blk.new _ _ _ _ hgg.symm
      have hge : w1.heap.size ≤ gz := hgg ▸ Later.size hS
      replace hS : (fun W : World => Later w1 W) y2 := Later.trans hS lc
      try rw [hgg]
      rw [hyy]
      have HBT := Lib.hid (HBT.out.later lc)
      have HBM := Lib.hid (HBM.out.later lc)
      have HOZ := Lib.hid (Blk.ownG (cs := []) (size := 3) (n := 0) hbn hge rfl (by decide))
      have HOY := Lib.hid (own_later HOY.out lc)
      refine hK _ _ hS fun wq hwq => ?_
      subst hwq
      clear hK lc hyy hgg hbn hge
      (try simp only [Act.put, List.setIfInBounds_toArray, List.set_cons_zero, List.set_cons_succ])
      refine wpAnyK_all (rs := [3]) (by kernel_rfl) (by simp) (fun i hi => ?_)
      simp only [List.mem_cons, List.not_mem_nil, or_false] at hi
      subst hi
      refine stepK (o := { dst := some 28, op := _, type := _, pos := _, after := _, guard := _ }) rfl (fun K hK => ?_)
      refine step_append_n rfl (.tmp 25) (.tmp 27) 22 rfl w1.heap.size 59 _ 3 32 Tryd.underlying22 info_c rfl (by decide) (.slice (some ⟨gz, 0, none⟩) 0 0) 0 [] rfl HOZ.out A s.1.length vc0 (fc s.1) rfl (HR1.out.later hS) (fc_length _) HAN.out (fc_one _) (by unfold maxLen; have := HEL.out; omega) (by have := HEL.out; omega) (Later.size hS) ?_
      rintro A' c' y3 ho hgr hbl _
      (try simp only [Nat.zero_add])
      rw [Nat.zero_add, List.nil_append] at ho
      obtain ⟨gv, rfl⟩ := own_some ho (by have := HMQ.out.len; omega)
      obtain ⟨cz, hcz⟩ := own_typ HOZ.out
      have HBT := Lib.hid (grown_blk (d := gz) hgr HBT.out (ne_typ HBT.out hcz (by decide)))
      have HBM := Lib.hid (grown_blk (d := gz) hgr HBM.out (ne_typ HBM.out hcz (by decide)))
      have HO1 := Lib.hid ho
      obtain ⟨cy, hcy⟩ := own_typ HOY.out
      have HOY := Lib.hid (own_apart HOY.out hgr (fun p hp e => by injection hp with hp; injection e with e; exact ne_typ hcy hcz (by decide) (hp.trans e)))
      clear hcy
      replace hS : (fun W : World => Later w1 W) y3 := grow_later hS hgr (own_capG HOZ.out).2.2.1
      refine hK _ _ hS fun wq hwq => ?_
      subst hwq
      clear hK ho hgr hbl hcz
      (try simp only [Act.put, List.setIfInBounds_toArray, List.set_cons_zero, List.set_cons_succ])
      refine wpAnyK_all (rs := [7]) (by kernel_rfl) (by simp) (fun i hi => ?_)
      simp only [List.mem_cons, List.not_mem_nil, or_false] at hi
      subst hi
      refine stepK (o := { dst := some 32, op := _, type := _, pos := _, after := _, guard := _ }) rfl (fun K hK => ?_)
      refine step_append_n rfl (.tmp 29) (.tmp 31) 25 rfl w1.heap.size 3 _ 1 8 Tryd.underlying25 info_e rfl (by decide) (.slice (some ⟨gy, 0, none⟩) 0 0) 0 [] rfl HOY.out E s.2.2.enc.length ec0 (ein s.2.2.enc) rfl (HE1.out.later hS) (by rw [ein_len, Nat.mul_one]) HEN.out (fun u hu => by obtain ⟨z, _, rfl⟩ := List.mem_map.1 hu; rfl) (by unfold maxLen; have := HEL.out; omega) (by have := HEL.out; omega) (Later.size hS) ?_
      rintro A' ce y3a ho hgr hbl _
      (try simp only [Nat.zero_add])
      rw [Nat.zero_add, List.nil_append] at ho
      obtain ⟨ge, rfl⟩ := own_some ho (by have := HMQ.out.len; have := HLQ.out.len; omega)
      obtain ⟨cy, hcy⟩ := own_typ HOY.out
      obtain ⟨cv, hcv⟩ := own_typ HO1.out
      have HBT := Lib.hid (grown_blk (d := gy) hgr HBT.out (ne_typ HBT.out hcy (by decide)))
      have HBM := Lib.hid (grown_blk (d := gy) hgr HBM.out (ne_typ HBM.out hcy (by decide)))
      have HO1 := Lib.hid (own_apart HO1.out hgr (fun p hp e => by injection hp with hp; injection e with e; exact ne_typ hcv hcy (by decide) (hp.trans e)))
      have HO2 := Lib.hid ho
      replace hS : (fun W : World => Later w1 W) y3a := grow_later hS hgr (own_capG HOY.out).2.2.1
      refine hK _ _ hS fun wq hwq => ?_
      subst hwq
      clear hK ho hgr hbl hcy hcv
      (try simp only [Act.put, List.setIfInBounds_toArray, List.set_cons_zero, List.set_cons_succ])
      refine wpAnyK_take (fun _ => rfl) (fun _ _ _ h k => h.trans k) (fun _ _ h k => k ▸ h) (i := 8) (oi := { dst := some 33, op := _, type := _, pos := _, after := _, guard := _ }) (v := ?_) rfl (by kernel_rfl) (by kernel_rfl) (by kernel_rfl) (fun _ _ _ h => h) (Or.inl (Or.inl ⟨by rfl, ?_⟩)) hS ?_
      rotate_left
      focus ((intro w hSw; (try dsimp only at hSw); skip; go_simp); (try with_reducible rfl))
      intro wq hwq
      subst hwq
      (try simp only [Act.put, List.setIfInBounds_toArray, List.set_cons_zero, List.set_cons_succ])
      refine wpAnyK_all (rs := [9]) (by kernel_rfl) (by simp) (fun i hi => ?_)
      simp only [List.mem_cons, List.not_mem_nil, or_false] at hi
      subst hi
      refine stepK (o := { dst := none, op := _, type := _, pos := _, after := _, guard := _ }) rfl (fun K hK => ?_)
      have u0 : y3a.cell? ⟨gt, 0, none⟩ = some (.slice A s.1.length vc0) := HBT.out.cell 0 _ rfl
      have u1 := HBT.out.frozen 0
      go_simp
      have hab : gm ≠ gt := ne_typ HBM.out HBT.out (by decide)
      have hA2 := HBT.out.set_ 0 (.slice (some ⟨gv, 0, none⟩) s.1.length c')
      have hB2 := HBM.out.far (p := ⟨gt, 0, none⟩) (by exact hab) (.slice (some ⟨gv, 0, none⟩) s.1.length c')
      have hO1 := own_aside (k := 0) HO1.out HBT.out (by decide) (.slice (some ⟨gv, 0, none⟩) s.1.length c')
      have hO2 := own_aside (k := 0) HO2.out HBT.out (by decide) (.slice (some ⟨gv, 0, none⟩) s.1.length c')
      have hS2 : (fun W : World => Later w1 W) (y3a.setCell ⟨gt, 0, none⟩ (.slice (some ⟨gv, 0, none⟩) s.1.length c')) := lsetB gt 0 _ HGT.out.1 hS
      refine hK _ _ hS2 fun wq hwq => ?_
      obtain ⟨z1, hz1⟩ : ∃ x, y3a.setCell ⟨gt, 0, none⟩ (.slice (some ⟨gv, 0, none⟩) s.1.length c') = x := ⟨_, rfl⟩
      rw [hz1] at hA2 hB2 hO1 hO2 hS2
      have hz2 : z1 = wq := hz1.symm.trans hwq
      subst hz2
      replace hS := hS2
      clear hK hwq hz1 u0 u1
      (try simp only [Act.put])
      refine wpAnyK_take (fun _ => rfl) (fun _ _ _ h k => h.trans k) (fun _ _ h k => k ▸ h) (i := 10) (oi := { dst := some 34, op := _, type := _, pos := _, after := _, guard := _ }) (v := ?_) rfl (by kernel_rfl) (by kernel_rfl) (by kernel_rfl) (fun _ _ _ h => h) (Or.inl (Or.inl ⟨by rfl, ?_⟩)) hS ?_
      rotate_left
      focus ((intro w hSw; (try dsimp only at hSw); skip; go_simp); (try with_reducible rfl))
      intro wq hwq
      subst hwq
      (try simp only [Act.put, List.setIfInBounds_toArray, List.set_cons_zero, List.set_cons_succ])
      refine wpAnyK_all (rs := [11]) (by kernel_rfl) (by simp) (fun i hi => ?_)
      simp only [List.mem_cons, List.not_mem_nil, or_false] at hi
      subst hi
      refine stepK (o := { dst := none, op := _, type := _, pos := _, after := _, guard := _ }) rfl (fun K hK => ?_)
      have u0 : z1.cell? ⟨gm, 3, none⟩ = some (.slice E s.2.2.enc.length ec0) := Blk.cell hB2 3 _ rfl
      have u1 := Blk.frozen hB2 3
      go_simp
      have hB3 := Blk.set_ hB2 3 (.slice (some ⟨ge, 0, none⟩) s.2.2.enc.length ce)
      have hA3 := Blk.far hA2 (p := ⟨gm, 3, none⟩) (by exact hab.symm) (.slice (some ⟨ge, 0, none⟩) s.2.2.enc.length ce)
      have hP1 := own_aside (k := 3) hO1 hB2 (by decide) (.slice (some ⟨ge, 0, none⟩) s.2.2.enc.length ce)
      have hP2 := own_aside (k := 3) hO2 hB2 (by decide) (.slice (some ⟨ge, 0, none⟩) s.2.2.enc.length ce)
      have hS3 : (fun W : World => Later w1 W) (z1.setCell ⟨gm, 3, none⟩ (.slice (some ⟨ge, 0, none⟩) s.2.2.enc.length ce)) := lsetB gm 3 _ HGT.out.2 hS
      refine hK _ _ hS3 fun wq hwq => ?_
      obtain ⟨z2, hz1⟩ : ∃ x, z1.setCell ⟨gm, 3, none⟩ (.slice (some ⟨ge, 0, none⟩) s.2.2.enc.length ce) = x := ⟨_, rfl⟩
      rw [hz1] at hA3 hB3 hP1 hP2 hS3
      have hz2 : z2 = wq := hz1.symm.trans hwq
      subst hz2
      clear hK hwq hz1 u0 u1
      (try simp only [Act.put])
      refine wpAnyK_done (by kernel_rfl) ?_ _
      go_wp2_with fail
      go_meet
      exact ⟨rfl, gv, c', ge, ce, ⟨hA3, hB3, hP1, hP2, HGT.out⟩, hS3⟩
  case rest =>
  obtain ⟨rfl, gv, vc, ge, ec, hT, hL⟩ := hcut
  have HT := Lib.hid hT
  have HL := Lib.hid hL
  clear hT hL HBT HBM L4
  obtain ⟨w5, hw5⟩ : ∃ x, x = wc := ⟨_, rfl⟩
  rw [← hw5] at HT HL ⊢
  clear hw5
  have k0 : w5.cell? ⟨q + 2, 0, none⟩ = some (.int .i64 c.kind) := (HB2.out.later HL.out).cell 0 _ rfl
  have k1 : w5.cell? ⟨q + 2, 1, none⟩ = some (.int .i64 c.col) := (HB2.out.later HL.out).cell 1 _ rfl
  have k2 : w5.cell? ⟨q + 2, 2, none⟩ = some (.string c.name) := (HB2.out.later HL.out).cell 2 _ rfl
  have k3 : w5.cell? ⟨q + 2, 3, none⟩ = some (.int .i64 c.typ) := (HB2.out.later HL.out).cell 3 _ rfl
  have k4 : w5.cell? ⟨q + 2, 4, none⟩ = some (.int .i64 c.val.1) := (HB2.out.later HL.out).cell 4 _ rfl
  have k5 : w5.cell? ⟨q + 2, 5, none⟩ = some (.int .i64 c.val.2.1) := (HB2.out.later HL.out).cell 5 _ rfl
  have k6 : w5.cell? ⟨q + 2, 6, none⟩ = some (.string c.val.2.2) := (HB2.out.later HL.out).cell 6 _ rfl
  have k7 : w5.cell? ⟨q + 2, 7, none⟩ = some (.int .u8 c.sep) := (HB2.out.later HL.out).cell 7 _ rfl
  have k8 : w5.cell? ⟨q + 2, 8, none⟩ = some (.int .i64 c.num) := (HB2.out.later HL.out).cell 8 _ rfl
  have s0 : w5.cell? ⟨q, 0, none⟩ = some (.slice A s.1.length vc0) := (HB0.out.later HL.out).cell 0 _ rfl
  have s1 : w5.cell? ⟨q, 1, none⟩ = some (.int .i64 s.2.1) := (HB0.out.later HL.out).cell 1 _ rfl
  have HLST := Lib.hid (show 0 ≤ s.2.1 ∧ s.2.1 ≤ 10000 from ⟨by
    have h0 : 0 < s.1.length := by have := HMQ.out.len; omega
    have := (HMQ.out.col _ (List.getElem_mem h0)).1
    omega, HMQ.out.last⟩)
  go_upto_if 37 with fail
  go_cut [11, 37] from 38 to 52 (fun ev bv wx => ∃ e11, ev = .int .i64 e11 ∧ RTurnP w1 gt gm (changeM s c) (.returned (.int .i64 e11)) wx)
  case first =>
    by_cases h1 : c.kind = 1
    · have HC := Lib.hid (refAdd_any w1 gt gm w5 s c gv vc ge ec HL.out HT.out HMQ.out.len HLQ.out.len HLST.out HCN.out)
      have HE1 := Lib.hid (show changeM s c = addM s c c.typ c.val s.1.length from if_pos h1)
      have z1 : (c.kind == 1) = true := by simp [h1]
      clear h1
      unfold cagg9 at HC
      go_wp2_with fail
      refine HC.out.mono ?_
      rintro e w6 hc
      rw [← HE1.out] at hc
      have HCC := Lib.hid hc
      obtain ⟨_, ⟨n, _, _, rfl⟩ | ⟨s', _, _, _, _, _, rfl, _⟩⟩ := hc
      · clear k0 k1 k2 k3 k4 k5 k6 k7 k8 s0 s1 z1
        go_wp2_with fail
        go_meet
        exact ⟨n, rfl, HCC.out⟩
      · clear k0 k1 k2 k3 k4 k5 k6 k7 k8 s0 s1 z1
        go_wp2_with fail
        go_meet
        exact ⟨0, rfl, HCC.out⟩
    have z1 : (c.kind == 1) = false := by simp [h1]
    by_cases h2 : (2 : Int) ≤ c.kind ∧ c.kind ≤ (5 : Int)
    · have HC := Lib.hid (refTurn_any w1 gt gm w5 s c gv vc ge ec HL.out HT.out HMQ.out.len HLQ.out.len HLST.out HCN.out h2)
      have z2 := h2.1
      have z3 := h2.2
      clear h1 h2
      unfold cagg9 at HC
      go_wp2_with fail
      refine HC.out.mono ?_
      rintro e w6 hc
      have HCC := Lib.hid hc
      obtain ⟨_, ⟨n, _, _, rfl⟩ | ⟨s', _, _, _, _, _, rfl, _⟩⟩ := hc
      · clear k0 k1 k2 k3 k4 k5 k6 k7 k8 s0 s1 z1 z2 z3
        go_wp2_with fail
        go_meet
        exact ⟨n, rfl, HCC.out⟩
      · clear k0 k1 k2 k3 k4 k5 k6 k7 k8 s0 s1 z1 z2 z3
        go_wp2_with fail
        go_meet
        exact ⟨0, rfl, HCC.out⟩
    have HC := Lib.hid (refLay_any w1 gt gm w5 s c gv vc ge ec A vc0 HL.out HT.out (HR1.out.later HL.out) HMQ.out.len.2 HLQ.out.len (by omega))
    unfold cagg9 at HC
    by_cases h3 : (2 : Int) ≤ c.kind
    · have h4 : ¬ c.kind ≤ (5 : Int) := fun h => h2 ⟨h3, h⟩
      clear h1 h2
      go_wp2_with fail
      refine HC.out.mono ?_
      rintro e w6 hc
      have HCC := Lib.hid hc
      obtain ⟨_, ⟨n, _, _, rfl⟩ | ⟨s', _, _, _, _, _, rfl, _⟩⟩ := hc
      · clear k0 k1 k2 k3 k4 k5 k6 k7 k8 s0 s1 z1 h3 h4
        go_wp2_with fail
        go_meet
        exact ⟨n, rfl, HCC.out⟩
      · clear k0 k1 k2 k3 k4 k5 k6 k7 k8 s0 s1 z1 h3 h4
        go_wp2_with fail
        go_meet
        exact ⟨0, rfl, HCC.out⟩
    · clear h1 h2
      go_wp2_with fail
      refine HC.out.mono ?_
      rintro e w6 hc
      have HCC := Lib.hid hc
      obtain ⟨_, ⟨n, _, _, rfl⟩ | ⟨s', _, _, _, _, _, rfl, _⟩⟩ := hc
      · clear k0 k1 k2 k3 k4 k5 k6 k7 k8 s0 s1 z1 h3
        go_wp2_with fail
        go_meet
        exact ⟨n, rfl, HCC.out⟩
      · clear k0 k1 k2 k3 k4 k5 k6 k7 k8 s0 s1 z1 h3
        go_wp2_with fail
        go_meet
        exact ⟨0, rfl, HCC.out⟩
  case rest =>
  obtain ⟨e11, rfl, lx, h⟩ := hcut
  obtain ⟨w7, hw7⟩ : ∃ x, x = wc := ⟨_, rfl⟩
  rw [← hw7] at lx h ⊢
  clear hw7 k0 k1 k2 k3 k4 k5 k6 k7 k8 s0 s1 HT HL
  have LX := Lib.hid lx
  clear lx
  rcases h with ⟨n, ho, hn, he⟩ | ⟨s', gv', vc', ge', ec', ho, he, ht⟩
  · have HX := Lib.hid (HAP.out.trans ho)
    have HN := Lib.hid hn
    injection he with he
    injection he with _ he
    subst he
    have hn0 : (e11 != 0) = true := by
      simp only [List.mem_cons, List.not_mem_nil, or_false] at hn
      simp; omega
    clear ho hn
    have HF3 := Lib.hid (show Blk w7 (q + 3) #[.slice none 0 0, .int .i64 0] 24 from HB3.out.later LX.out)
    have HF4 := Lib.hid (show Blk w7 (q + 4) #[.int .i64 0, .int .i64 0, .int .i64 0, .slice none 0 0] 27 from HB4.out.later LX.out)
    have HLF := Lib.hid (HL1.out.trans LX.out)
    obtain ⟨x0, hx0⟩ : ∃ x, w7.setCell ⟨q + 3, 0, none⟩ (.slice none 0 0) = x := ⟨_, rfl⟩
    have c0 := Blk.cell (HF3.out) 0 _ rfl
    have z0 := Blk.frozen (HF3.out) 0
    have g0_3 : Blk x0 (q + 3) #[.slice none 0 0, .int .i64 0] 24 := hx0 ▸ Blk.set_ (HF3.out) 0 _
    have g0_4 : Blk x0 (q + 4) #[.int .i64 0, .int .i64 0, .int .i64 0, .slice none 0 0] 27 := hx0 ▸ Blk.far (HF4.out) (by show q + 4 ≠ q + 3; omega) _
    obtain ⟨x1, hx1⟩ : ∃ x, x0.setCell ⟨q + 3, 1, none⟩ (.int .i64 0) = x := ⟨_, rfl⟩
    have c1 := Blk.cell (g0_3) 1 _ rfl
    have z1 := Blk.frozen (g0_3) 1
    have g1_3 : Blk x1 (q + 3) #[.slice none 0 0, .int .i64 0] 24 := hx1 ▸ Blk.set_ (g0_3) 1 _
    have g1_4 : Blk x1 (q + 4) #[.int .i64 0, .int .i64 0, .int .i64 0, .slice none 0 0] 27 := hx1 ▸ Blk.far (g0_4) (by show q + 4 ≠ q + 3; omega) _
    obtain ⟨x2, hx2⟩ : ∃ x, x1.setCell ⟨q + 4, 0, none⟩ (.int .i64 0) = x := ⟨_, rfl⟩
    have c2 := Blk.cell (g1_4) 0 _ rfl
    have z2 := Blk.frozen (g1_4) 0
    have g2_4 : Blk x2 (q + 4) #[.int .i64 0, .int .i64 0, .int .i64 0, .slice none 0 0] 27 := hx2 ▸ Blk.set_ (g1_4) 0 _
    have g2_3 : Blk x2 (q + 3) #[.slice none 0 0, .int .i64 0] 24 := hx2 ▸ Blk.far (g1_3) (by show q + 3 ≠ q + 4; omega) _
    obtain ⟨x3, hx3⟩ : ∃ x, x2.setCell ⟨q + 4, 1, none⟩ (.int .i64 0) = x := ⟨_, rfl⟩
    have c3 := Blk.cell (g2_4) 1 _ rfl
    have z3 := Blk.frozen (g2_4) 1
    have g3_4 : Blk x3 (q + 4) #[.int .i64 0, .int .i64 0, .int .i64 0, .slice none 0 0] 27 := hx3 ▸ Blk.set_ (g2_4) 1 _
    have g3_3 : Blk x3 (q + 3) #[.slice none 0 0, .int .i64 0] 24 := hx3 ▸ Blk.far (g2_3) (by show q + 3 ≠ q + 4; omega) _
    obtain ⟨x4, hx4⟩ : ∃ x, x3.setCell ⟨q + 4, 2, none⟩ (.int .i64 0) = x := ⟨_, rfl⟩
    have c4 := Blk.cell (g3_4) 2 _ rfl
    have z4 := Blk.frozen (g3_4) 2
    have g4_4 : Blk x4 (q + 4) #[.int .i64 0, .int .i64 0, .int .i64 0, .slice none 0 0] 27 := hx4 ▸ Blk.set_ (g3_4) 2 _
    have g4_3 : Blk x4 (q + 3) #[.slice none 0 0, .int .i64 0] 24 := hx4 ▸ Blk.far (g3_3) (by show q + 3 ≠ q + 4; omega) _
    obtain ⟨x5, hx5⟩ : ∃ x, x4.setCell ⟨q + 4, 3, none⟩ (.slice none 0 0) = x := ⟨_, rfl⟩
    have c5 := Blk.cell (g4_4) 3 _ rfl
    have z5 := Blk.frozen (g4_4) 3
    have g5_4 : Blk x5 (q + 4) #[.int .i64 0, .int .i64 0, .int .i64 0, .slice none 0 0] 27 := hx5 ▸ Blk.set_ (g4_4) 3 _
    have g5_3 : Blk x5 (q + 3) #[.slice none 0 0, .int .i64 0] 24 := hx5 ▸ Blk.far (g4_3) (by show q + 3 ≠ q + 4; omega) _
    have r0 := g5_3.cell 0 _ rfl
    have r1 := g5_3.cell 1 _ rfl
    have r2 := g5_4.cell 0 _ rfl
    have r3 := g5_4.cell 1 _ rfl
    have r4 := g5_4.cell 2 _ rfl
    have r5 := g5_4.cell 3 _ rfl
    have q3 : w.heap.size ≤ q + 3 := by have := HQ.out; omega
    have q4 : w.heap.size ≤ q + 4 := by have := HQ.out; omega
    have HLF2 := Lib.hid (show Later w x5 from hx5 ▸ hx4 ▸ hx3 ▸ hx2 ▸ hx1 ▸ hx0 ▸ (((((HLF.out.set_ q3 _).set_ q3 _).set_ q4 _).set_ q4 _).set_ q4 _).set_ q4 _)
    clear g0_3 g0_4 g1_3 g1_4 g2_3 g2_4 g3_3 g3_4 g4_3 g4_4 g5_3 g5_4 HF3 HF4 q3 q4
    go_wp2_with fail
    exact bodyPost_ret (v := .tuple #[.agg #[.slice none 0 0, .int .i64 0], .agg #[.int .i64 0, .int .i64 0, .int .i64 0, .slice none 0 0], .int .i64 e11]) (by simp [results, Tryd.results15, go_sem, r0, r1, r2, r3, r4, r5]) rfl ⟨HLF2.out, .inl ⟨e11, HX.out, HN.out, rfl⟩⟩
  · have HX := Lib.hid (HAP.out.trans ho)
    injection he with he
    injection he with _ he
    subst he
    have HT := Lib.hid ht
    clear ho ht
    go_upto_region 13 with fail
    refine wp_region_K (S := (fun W : World => Blk W gt #[.slice (some ⟨gv', 0, none⟩) s'.1.length vc', .int .i64 s'.2.1] 24 ∧ Blk W gm #[.int .i64 s'.2.2.sb, .int .i64 s'.2.2.pb, .int .i64 s'.2.2.parts, .slice (some ⟨ge', 0, none⟩) s'.2.2.enc.length ec'] 27)) (R := fun a b => a = b) (fun _ => rfl) (by kernel_rfl) ?_
    obtain ⟨y0, hy0⟩ : ∃ x, (w7).drew = x := ⟨_, rfl⟩
    have ly0 : Later w7 y0 := hy0 ▸ (Later.refl w7).drew
    have hS : (fun W : World => Blk W gt #[.slice (some ⟨gv', 0, none⟩) s'.1.length vc', .int .i64 s'.2.1] 24 ∧ Blk W gm #[.int .i64 s'.2.2.sb, .int .i64 s'.2.2.pb, .int .i64 s'.2.2.parts, .slice (some ⟨ge', 0, none⟩) s'.2.2.enc.length ec'] 27) y0 := ⟨(HT.out.later ly0).bs, (HT.out.later ly0).bl⟩
    have HTY := Lib.hid (HT.out.later ly0)
    have HF3 := Lib.hid (HB3.out.later (LX.out.trans ly0))
    have HF4 := Lib.hid (HB4.out.later (LX.out.trans ly0))
    have HLY := Lib.hid (HL1.out.trans (LX.out.trans ly0))
    rw [hy0]
    clear hy0
    refine wpAnyK_take (fun _ => rfl) (fun _ _ _ h k => h.trans k) (fun _ _ h k => k ▸ h) (i := 0) (oi := { dst := some 58, op := _, type := _, pos := _, after := _, guard := _ }) (v := ?_) rfl (by kernel_rfl) (by kernel_rfl) (by kernel_rfl) (fun _ _ _ h => h) (Or.inl (Or.inl ⟨by rfl, ?_⟩)) hS ?_
    rotate_left
    focus ((intro w hSw; (try dsimp only at hSw); have e0 := hSw.1.cell 0 _ rfl; have e1 := hSw.1.cell 1 _ rfl; have f0 := hSw.2.cell 0 _ rfl; have f1 := hSw.2.cell 1 _ rfl; have f2 := hSw.2.cell 2 _ rfl; have f3 := hSw.2.cell 3 _ rfl; go_simp); (try with_reducible rfl))
    intro wq hwq
    subst hwq
    (try simp only [Act.put, List.setIfInBounds_toArray, List.set_cons_zero, List.set_cons_succ])
    refine wpAnyK_take (fun _ => rfl) (fun _ _ _ h k => h.trans k) (fun _ _ h k => k ▸ h) (i := 1) (oi := { dst := some 59, op := _, type := _, pos := _, after := _, guard := _ }) (v := ?_) rfl (by kernel_rfl) (by kernel_rfl) (by kernel_rfl) (fun _ _ _ h => h) (Or.inl (Or.inl ⟨by rfl, ?_⟩)) hS ?_
    rotate_left
    focus ((intro w hSw; (try dsimp only at hSw); have e0 := hSw.1.cell 0 _ rfl; have e1 := hSw.1.cell 1 _ rfl; have f0 := hSw.2.cell 0 _ rfl; have f1 := hSw.2.cell 1 _ rfl; have f2 := hSw.2.cell 2 _ rfl; have f3 := hSw.2.cell 3 _ rfl; go_simp); (try with_reducible rfl))
    intro wq hwq
    subst hwq
    (try simp only [Act.put, List.setIfInBounds_toArray, List.set_cons_zero, List.set_cons_succ])
    have ht3 : gt ≠ q + 3 := by have := HGT.out.1; have := HSZ.out; omega
    have ht4 : gt ≠ q + 4 := by have := HGT.out.1; have := HSZ.out; omega
    have hm3 : gm ≠ q + 3 := by have := HGT.out.2; have := HSZ.out; omega
    have hm4 : gm ≠ q + 4 := by have := HGT.out.2; have := HSZ.out; omega
    have hb3 : q + 3 < w1.heap.size := HB3.out.lt
    have hb4 : q + 4 < w1.heap.size := HB4.out.lt
    have hq3 : w.heap.size ≤ q + 3 := by have := HQ.out; omega
    have hq4 : w.heap.size ≤ q + 4 := by have := HQ.out; omega
    refine wpAnyK_all (rs := [2]) (by kernel_rfl) (by simp) (fun i hi => ?_)
    simp only [List.mem_cons, List.not_mem_nil, or_false] at hi
    subst hi
    refine stepK (o := { dst := none, op := _, type := _, pos := _, after := _, guard := _ }) rfl (fun K hK => ?_)
    rw [if_pos (by rfl)]
    refine wp_store_mid 24 _ _ rfl (q + 3) 0 #[.slice (some ⟨gv', 0, none⟩) s'.1.length vc', .int .i64 s'.2.1] rfl rfl (fun j hj => by rw [Nat.zero_add]; have hj2 : j < 2 := hj; exact ⟨by rw [cell_of_row y0 (q + 3) j _ _ _ HF3.out, Array.getElem?_eq_getElem (by exact hj2)]; rfl, HF3.out.frozen j⟩) (by kernel_rfl) (by simp [Value.oneCell']) ?_
    have hA2 := Blk.fill [.slice none 0 0, .int .i64 0] [.slice (some ⟨gv', 0, none⟩) s'.1.length vc', .int .i64 s'.2.1] HF3.out rfl
    have hB2 := HF4.out.aside (show q + 4 ≠ q + 3 by omega) 0 [.slice (some ⟨gv', 0, none⟩) s'.1.length vc', .int .i64 s'.2.1]
    have hS2 : (fun W : World => Blk W gt #[.slice (some ⟨gv', 0, none⟩) s'.1.length vc', .int .i64 s'.2.1] 24 ∧ Blk W gm #[.int .i64 s'.2.2.sb, .int .i64 s'.2.2.pb, .int .i64 s'.2.2.parts, .slice (some ⟨ge', 0, none⟩) s'.2.2.enc.length ec'] 27) (y0.setCells (q + 3) 0 [.slice (some ⟨gv', 0, none⟩) s'.1.length vc', .int .i64 s'.2.1]) := ⟨hS.1.aside ht3 0 _, hS.2.aside hm3 0 _⟩
    have hO1 := own_fills (k := 0) HTY.out.ov hb3 [.slice (some ⟨gv', 0, none⟩) s'.1.length vc', .int .i64 s'.2.1]
    have hO2 := own_fills (k := 0) HTY.out.oe hb3 [.slice (some ⟨gv', 0, none⟩) s'.1.length vc', .int .i64 s'.2.1]
    have hL2 := Later.fill HLY.out hq3 0 [.slice (some ⟨gv', 0, none⟩) s'.1.length vc', .int .i64 s'.2.1]
    refine hK _ _ hS2 fun wq hwq => ?_
    obtain ⟨z1, hz1⟩ : ∃ x, y0.setCells (q + 3) 0 [.slice (some ⟨gv', 0, none⟩) s'.1.length vc', .int .i64 s'.2.1] = x := ⟨_, rfl⟩
    rw [hz1] at hA2 hB2 hS2 hO1 hO2 hL2
    have hz2 : z1 = wq := hz1.symm.trans hwq
    subst hz2
    clear hK hwq hz1
    (try simp only [Act.put])
    refine wpAnyK_all (rs := [3]) (by kernel_rfl) (by simp) (fun i hi => ?_)
    simp only [List.mem_cons, List.not_mem_nil, or_false] at hi
    subst hi
    refine stepK (o := { dst := none, op := _, type := _, pos := _, after := _, guard := _ }) rfl (fun K hK => ?_)
    rw [if_pos (by rfl)]
    refine wp_store_mid 27 _ _ rfl (q + 4) 0 #[.int .i64 s'.2.2.sb, .int .i64 s'.2.2.pb, .int .i64 s'.2.2.parts, .slice (some ⟨ge', 0, none⟩) s'.2.2.enc.length ec'] rfl rfl (fun j hj => by rw [Nat.zero_add]; have hj2 : j < 4 := hj; exact ⟨by rw [cell_of_row z1 (q + 4) j _ _ _ hB2, Array.getElem?_eq_getElem (by exact hj2)]; rfl, hB2.frozen j⟩) (by kernel_rfl) (by simp [Value.oneCell']) ?_
    have hB3 := Blk.fill [.int .i64 0, .int .i64 0, .int .i64 0, .slice none 0 0] [.int .i64 s'.2.2.sb, .int .i64 s'.2.2.pb, .int .i64 s'.2.2.parts, .slice (some ⟨ge', 0, none⟩) s'.2.2.enc.length ec'] hB2 rfl
    have hA3 := hA2.aside (show q + 3 ≠ q + 4 by omega) 0 [.int .i64 s'.2.2.sb, .int .i64 s'.2.2.pb, .int .i64 s'.2.2.parts, .slice (some ⟨ge', 0, none⟩) s'.2.2.enc.length ec']
    have hS3 : (fun W : World => Blk W gt #[.slice (some ⟨gv', 0, none⟩) s'.1.length vc', .int .i64 s'.2.1] 24 ∧ Blk W gm #[.int .i64 s'.2.2.sb, .int .i64 s'.2.2.pb, .int .i64 s'.2.2.parts, .slice (some ⟨ge', 0, none⟩) s'.2.2.enc.length ec'] 27) (z1.setCells (q + 4) 0 [.int .i64 s'.2.2.sb, .int .i64 s'.2.2.pb, .int .i64 s'.2.2.parts, .slice (some ⟨ge', 0, none⟩) s'.2.2.enc.length ec']) := ⟨hS2.1.aside ht4 0 _, hS2.2.aside hm4 0 _⟩
    have hP1 := own_fills (k := 0) hO1 hb4 [.int .i64 s'.2.2.sb, .int .i64 s'.2.2.pb, .int .i64 s'.2.2.parts, .slice (some ⟨ge', 0, none⟩) s'.2.2.enc.length ec']
    have hP2 := own_fills (k := 0) hO2 hb4 [.int .i64 s'.2.2.sb, .int .i64 s'.2.2.pb, .int .i64 s'.2.2.parts, .slice (some ⟨ge', 0, none⟩) s'.2.2.enc.length ec']
    have hL3 := Later.fill hL2 hq4 0 [.int .i64 s'.2.2.sb, .int .i64 s'.2.2.pb, .int .i64 s'.2.2.parts, .slice (some ⟨ge', 0, none⟩) s'.2.2.enc.length ec']
    refine hK _ _ hS3 fun wq hwq => ?_
    obtain ⟨z2, hz1⟩ : ∃ x, z1.setCells (q + 4) 0 [.int .i64 s'.2.2.sb, .int .i64 s'.2.2.pb, .int .i64 s'.2.2.parts, .slice (some ⟨ge', 0, none⟩) s'.2.2.enc.length ec'] = x := ⟨_, rfl⟩
    rw [hz1] at hA3 hB3 hS3 hP1 hP2 hL3
    have hz2 : z2 = wq := hz1.symm.trans hwq
    subst hz2
    replace hS := hS3
    clear hK hwq hz1
    (try simp only [Act.put])
    refine wpAnyK_take (fun _ => rfl) (fun _ _ _ h k => h.trans k) (fun _ _ h k => k ▸ h) (i := 4) (oi := { dst := some 8, op := _, type := _, pos := _, after := _, guard := _ }) (v := ?_) rfl (by kernel_rfl) (by kernel_rfl) (by kernel_rfl) (fun _ _ _ h => h) (Or.inl (Or.inl ⟨by rfl, ?_⟩)) hS ?_
    rotate_left
    focus ((intro w hSw; (try dsimp only at hSw); skip; go_simp); (try with_reducible rfl))
    intro wq hwq
    subst hwq
    (try simp only [Act.put, List.setIfInBounds_toArray, List.set_cons_zero, List.set_cons_succ])
    refine wpAnyK_done (by kernel_rfl) ?_ _
    have r0 := hA3.cell 0 _ rfl
    have r1 := hA3.cell 1 _ rfl
    have r2 := hB3.cell 0 _ rfl
    have r3 := hB3.cell 1 _ rfl
    have r4 := hB3.cell 2 _ rfl
    have r5 := hB3.cell 3 _ rfl
    go_wp2_with fail
    exact bodyPost_ret (v := .tuple #[.agg #[.slice (some ⟨gv', 0, none⟩) s'.1.length vc', .int .i64 s'.2.1], .agg #[.int .i64 s'.2.2.sb, .int .i64 s'.2.2.pb, .int .i64 s'.2.2.parts, .slice (some ⟨ge', 0, none⟩) s'.2.2.enc.length ec'], .int .i64 0]) (by simp [results, Tryd.results15, go_sem, r0, r1, r2, r3, r4, r5]) rfl ⟨hL3, .inr ⟨s', gv', vc', ge', ec', HX.out, rfl, own_weak hP1 HL1.out.size, own_weak hP2 HL1.out.size⟩⟩
end Go.Proofs.YtklohbglkbhjhaaDoor
