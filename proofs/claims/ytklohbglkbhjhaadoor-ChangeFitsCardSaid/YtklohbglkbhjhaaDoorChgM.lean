
import Derived.Test.YtklohbglkbhjhaaDoorChgR
import Derived.Test.YtklohbglkbhjhaaDoorChgE
import Derived.Test.YtklohbglkbhjhaaDoorRowsM
import Derived.Test.YtklohbglkbhjhaaDoorBase
import Derived.Test.YtklohbglkbhjhaaDoorLight
import Derived.Test.YtklohbglkbhjhaaDoorPlayC
import Derived.Test.YtklohbglkbhjhaaDoorPlayS
import Derived.Test.YtklohbglkbhjhaaDoorStayM
import Derived.Test.YtklohbglkbhjhaaDoorSchC
import Derived.Test.YtklohbglkbhjhaaDoorPlayV
import Derived.Test.YtklohbglkbhjhaaDoorPlayN
import Derived.Test.YtklohbglkbhjhaaDoorSchA
import Derived.WalkKit
import Derived.Laws.OwnMore
import Derived.Laws.BytesArg
import Derived.Laws.Rows
import Derived.Deep.AppendLies
import Derived.Deep.Draws
import Derived.Test.YtklohbglkbhjhaaDoorChecked
import Derived.Deep.OwnRows
import Derived.Lib.Hide
import Derived.Deep.Quiet
import Derived.Laws.AppendOwnNone
import Derived.Lib.Strings
import Derived.Outline
import Derived.WalkLawsBesides
import Derived.WalkSpells
import Derived.PlainAid
import Derived.Deep.QuietTactic
import Derived.BigQuiet
import Derived.RegionTactic
import Derived.BigRegion
import Derived.Handy
import Derived.Laws.BitsAllLaws
import Derived.Deep.RegionWith
import Derived.Lib.AppendStr
import Derived.Deep.RegionLaw
import Derived.Maps.AppendAt
import Derived.OpenShut
import Derived.WideShapes
import Derived.ChangeArms
import Derived.Deep.Slices
import Derived.Sort.Grow
import Derived.Test.YtklohbglkbhjhaaDoorShelf
import Derived.Lib.IndexLaws
import Derived.Lib.SliceRun
import Derived.Shelf.Spec.SlicesInsert
import Derived.Lib.Overlaps
import Derived.Lib.AppendZerosOnto
import Derived.OrdersHeld
import Derived.LaidEql
import Derived.Stop.Asserts
import Derived.RowKitTokens
import Derived.Stop.IfaceNil
import Derived.Laws.BitsLemmas
import Derived.Laws.Bits64
import Derived.WalkSmall
import Derived.Lib.Bytealg
import Derived.Deep.SlicePairs
import Derived.Shelf.Abstract
import Derived.Deep.CutBlock
import Derived.Deep.MidRow
import Derived.Lib.QuietBelow
import Derived.Deep.CutRange
import Derived.Deep.RegionHeld3
/- The arm of change.Row that splits in the middle. (tools/gen_chgR.py) -/


namespace Go.Proofs.YtklohbglkbhjhaaDoor
open Go.RowKit
set_option linter.unusedVariables false

set_option maxRecDepth 100000 in
set_option maxHeartbeats 4000000 in
theorem row_split_mid (V R : Option Addr) (vn vc rn rc : Nat) (last : Int) (xs : List Col3) (r : List Val3) ( col : Int) (nm : ByteArray) (ty v0 v1 : Int) (v2 : ByteArray) (sep : Nat) (N : Int) (w : World) (hs : S3 w) (hvn : vn = xs.length) (hrn : rn = r.length) (hl : vn ≤ 100) (hl2 : rn ≤ 100) (hV : Has w V (fc xs)) (hR : Has w R (fl r)) (hRn : R = none → rc = 0) (k : Nat) (hfi : findI xs col = some k) (hfit : FitsL xs r) (x : Val3) (hrx : r[k]? = some x) (hxs : x.2.2.size ≤ 1000) (p : Val3 × Val3) (hp : cutV x sep = p) (hk1 : k + 1 < rn) (hsep : sep < 256) (out : List Val3) (hout : (insL r (k + 1) p.2).set k (wideT p.1.1, p.1.2) = out) :
    Calls Tryd.prog 56 #[.agg #[.slice V vn vc, .int .i64 last], chg 5 col nm ty v0 v1 v2 sep N, .slice R rn rc] w (RowOk out w) := by
  obtain ⟨h0, hh0⟩ : ∃ x, w.heap.size = x := ⟨_, rfl⟩
  obtain ⟨w2, hw2⟩ : ∃ x : World, (w.alloc (.cells #[.slice V vn vc, .int .i64 last] 24)).alloc (.cells #[.int .i64 5, .int .i64 col, .string nm, .int .i64 ty, .int .i64 v0, .int .i64 v1, .string v2, .int .u8 sep, .int .i64 N] 31) = x := ⟨_, rfl⟩
  have l2 : Later w w2 := hw2 ▸ (Later.new w _).alloc _
  have bs : Blk w2 h0 #[.slice V vn vc, .int .i64 last] 24 := hw2 ▸ (Blk.new w _ _ _ hh0.symm).later (Later.new _ _)
  have bc : Blk w2 (h0 + 1) #[.int .i64 5, .int .i64 col, .string nm, .int .i64 ty, .int .i64 v0, .int .i64 v1, .string v2, .int .u8 sep, .int .i64 N] 31 := hw2 ▸ Blk.new _ _ _ _ (by simp; omega)
  have HB := Lib.hid (byID_any V vn vc last xs col w2 hvn (by omega) (hV.later l2))
  have HW2 := Lib.hid hw2
  have HS := Lib.hid hs
  have HL2 := Lib.hid l2
  have HV := Lib.hid hV
  have HR := Lib.hid hR
  have HVN := Lib.hid hvn
  have HRN := Lib.hid hrn
  have HBS := Lib.hid bs
  have HBC := Lib.hid bc
  have HNIL := Lib.hid hRn
  clear hs hvn hrn hV hR l2 hw2 hRn
  have HFI := Lib.hid hfi
  have HFIT := Lib.hid hfit
  have hkx : k < vn := by have := findI_ltR hfi; have := HVN.out; omega
  have HRK := Lib.hid (show rn = vn by have := hfit.1; have := HVN.out; have := HRN.out; omega)
  have hkr : k < r.length := by have := HRK.out; have := HRN.out; omega
  clear hfi hfit
  have HOUT := Lib.hid hout
  have HRX := Lib.hid (show r[k] = x from by rw [List.getElem?_eq_getElem hkr] at hrx; injection hrx)
  have HCUT := Lib.hid (fun W => hp ▸ cut_any x.1 x.2.1 x.2.2 sep W hsep hxs)
  clear hout hrx hp
  obtain ⟨x0, x1, x2⟩ := x
  have a0 := bs.cell 0 _ rfl
  have a1 := bs.cell 1 _ rfl
  have d1 := bc.cell 1 _ rfl
  clear bs bc
  go_enter Tryd.func56, Tryd.ntmps56
  go_wp2_with fail
  rw [HW2.out]
  refine HB.out.mono ?_
  rintro e w3 ⟨rfl, l3⟩
  rw [HFI.out]
  have HL3 := Lib.hid (HL2.out.trans l3)
  have HBS3 := Lib.hid (HBS.out.later l3)
  have HBC3 := Lib.hid (HBC.out.later l3)
  have HF := Lib.hid (schFits_any V R vn vc rn rc last xs r w3 (HS.out.later HL3.out) HVN.out HRN.out (by omega) (by omega) (HV.out.later HL3.out) (HR.out.later HL3.out))
  have a0 := HBS3.out.cell 0 _ rfl
  have a1 := HBS3.out.cell 1 _ rfl
  have d0 := HBC3.out.cell 0 _ rfl
  clear HB HW2 HBS HBC HL2 d1 l3
  go_wp2_with fail
  refine HF.out.mono ?_
  rintro e w4 ⟨q, hq, rfl, l4⟩
  have HQ := Lib.hid hq
  have HL4 := Lib.hid (HL3.out.trans l4)
  have HBC4 := Lib.hid (HBC3.out.later l4)
  clear HF HBS3 HBC3 HL3 a0 a1 d0 hq l4
  have d0 := HBC4.out.cell 0 _ rfl
  have hqt : q = true := HQ.out.2 HFIT.out
  subst hqt
  have HC := Lib.hid (fun W (l : Later w4 W) => clone_any R rn rc r W HRN.out (by omega) (HR.out.later (HL4.out.trans l)) HNIL.out)
  have hkn : (k : Int) < (rn : Int) := by have := HRK.out; omega
  go_wp2_with fail
  refine (HC.out w4 (Later.refl _)).mono ?_
  rintro e w5 ⟨A, c, rfl, o5, n5, l5⟩
  rw [← HRN.out] at o5 ⊢
  obtain ⟨g, rfl⟩ := own_some o5 (by omega)
  have HO5 := Lib.hid o5
  have HL5 := Lib.hid (HL4.out.trans l5)
  have HBC5 := Lib.hid (HBC4.out.later l5)
  have hx := (fl_get r k hkr)
  have e0 := o5.cellAt (k * 3) (by omega)
  have e1 := o5.cellAt (k * 3 + 1) (by omega)
  have e2 := o5.cellAt (k * 3 + 2) (by omega)
  rw [hx.1] at e0
  rw [hx.2.1] at e1
  rw [hx.2.2] at e2
  rw [HRX.out] at e0 e1 e2
  have HGL := Lib.hid (o5.lt g rfl)
  dsimp only at e0 e1 e2
  have lz : Later w5 ((w5.alloc (.cells #[.int .i64 0, .int .i64 0, .string ⟨#[]⟩] 29)).alloc (.cells #[.int .i64 0, .int .i64 0, .string ⟨#[]⟩] 29)) := (Later.new _ _).alloc _
  have e0 := lz.cell e0
  have e1 := lz.cell e1
  have e2 := lz.cell e2
  obtain ⟨h5, hh5⟩ : ∃ x, w5.heap.size = x := ⟨_, rfl⟩
  obtain ⟨w6, hw6⟩ : ∃ x : World, (w5.alloc (.cells #[.int .i64 x0, .int .i64 x1, .string x2] 29)).alloc (.cells #[.int .i64 0, .int .i64 0, .string ⟨#[]⟩] 29) = x := ⟨_, rfl⟩
  have l6 : Later w5 w6 := hw6 ▸ (Later.new _ _).alloc _
  have b6 : Blk w6 h5 #[.int .i64 x0, .int .i64 x1, .string x2] 29 := hw6 ▸ (Blk.new w5 _ _ _ hh5.symm).later (Later.new _ _)
  have t6 : Blk w6 (h5 + 1) #[.int .i64 0, .int .i64 0, .string ⟨#[]⟩] 29 := hw6 ▸ Blk.new _ _ _ _ (by simp; omega)
  have HB6 := Lib.hid b6
  have HT6 := Lib.hid t6
  have HBC6 := Lib.hid (HBC5.out.later l6)
  have HL56 := Lib.hid l6
  have HW6 := Lib.hid hw6
  have HS5 := Lib.hid (show h0 + 2 ≤ h5 from by have h1 := block_lt_of_cell (HBC5.out.cell 0 _ rfl); dsimp only at h1; omega)
  clear hx o5 n5 l5 HC HBC4 d0 lz l6 b6 t6 hw6
  have d0 := ((Later.new w5 (.cells #[.int .i64 x0, .int .i64 x1, .string x2] 29)).alloc (.cells #[.int .i64 0, .int .i64 0, .string ⟨#[]⟩] 29)).cell (HBC5.out.cell 0 _ rfl)
  have d7 := ((Later.new w5 (.cells #[.int .i64 x0, .int .i64 x1, .string x2] 29)).alloc (.cells #[.int .i64 0, .int .i64 0, .string ⟨#[]⟩] 29)).cell (HBC5.out.cell 7 _ rfl)
  have hwk : IntKind.i64.wrap ((k : Int) + 1) = (k : Int) + 1 := IntWalk.i64_in _ ⟨by omega, by omega⟩
  go_wp2_with fail
  rw [HW6.out]
  refine (HCUT.out w6).mono ?_
  rintro e w7 ⟨rfl, l7⟩
  obtain ⟨⟨p0, p1, p2⟩, ⟨q0, q1, q2⟩⟩ := p
  dsimp only at HOUT ⊢
  have b7 := HB6.out.later l7
  have t7 := HT6.out.later l7
  have z0 := b7.cell 0 _ rfl
  have z1 := b7.cell 1 _ rfl
  have z2 := b7.cell 2 _ rfl
  have f0 := b7.frozen 0
  have f1 := b7.frozen 1
  have f2 := b7.frozen 2
  have b8 := three_blk b7 rfl (.int .i64 p0) (.int .i64 p1) (.string p2)
  have t8 := ((t7.far (p := ⟨h5, 0, none⟩) (by show h5 + 1 ≠ h5; omega) (.int .i64 p0)).far (p := ⟨h5, 1, none⟩) (by show h5 + 1 ≠ h5; omega) (.int .i64 p1)).far (p := ⟨h5, 2, none⟩) (by show h5 + 1 ≠ h5; omega) (.string p2)
  have y0 := t8.cell 0 _ rfl
  have y1 := t8.cell 1 _ rfl
  have y2 := t8.cell 2 _ rfl
  have k0 := t8.frozen 0
  have k1 := t8.frozen 1
  have k2 := t8.frozen 2
  have t9 := three_blk t8 rfl (.int .i64 q0) (.int .i64 q1) (.string q2)
  have b9 := ((b8.far (p := ⟨h5 + 1, 0, none⟩) (by show h5 ≠ h5 + 1; omega) (.int .i64 q0)).far (p := ⟨h5 + 1, 1, none⟩) (by show h5 ≠ h5 + 1; omega) (.int .i64 q1)).far (p := ⟨h5 + 1, 2, none⟩) (by show h5 ≠ h5 + 1; omega) (.string q2)
  have u0 := t9.cell 0 _ rfl
  have u1 := t9.cell 1 _ rfl
  have u2 := t9.cell 2 _ rfl
  have L59 := Lib.hid (three_later (three_later (HL56.out.trans l7) (g := h5) (by omega) (.int .i64 p0) (.int .i64 p1) (.string p2)) (g := h5 + 1) (by omega) (.int .i64 q0) (.int .i64 q1) (.string q2))
  have B9 := Lib.hid b9
  clear HCUT HB6 HT6 HBC5 HBC6 HW6 HL56 d0 d7 e0 e1 e2 l7 b7 t7 b8 t8 t9 b9
  go_wp2_with fail
  obtain ⟨w9, hw9⟩ : ∃ x : World, ((((((w7).setCell ⟨h5, 0, none⟩ (.int .i64 p0)).setCell ⟨h5, 1, none⟩ (.int .i64 p1)).setCell ⟨h5, 2, none⟩ (.string p2)).setCell ⟨h5 + 1, 0, none⟩ (.int .i64 q0)).setCell ⟨h5 + 1, 1, none⟩ (.int .i64 q1)).setCell ⟨h5 + 1, 2, none⟩ (.string q2) = x := ⟨_, rfl⟩
  obtain ⟨h7, hh7⟩ : ∃ x, w7.heap.size = x := ⟨_, rfl⟩
  have hs9 : w9.heap.size = h7 := by rw [← hw9, ← hh7]; simp [World.setCell]
  rw [hw9] at B9 L59 ⊢
  rw [hh7]
  obtain ⟨w10, hw10⟩ : ∃ x : World, w9.alloc (.cells #[.int .i64 q0, .int .i64 q1, .string q2] 29) = x := ⟨_, rfl⟩
  have l10 : Later w9 w10 := hw10 ▸ Later.new w9 _
  have h10 : Blk w10 h7 (encV (q0, q1, q2)).toArray 29 := hw10 ▸ Blk.new w9 _ _ h7 hs9.symm
  have hh57 : g < h7 := by have h1 := L59.out.size; have h2 := HGL.out.2; omega
  rw [hw10]
  have HL10 := Lib.hid (L59.out.trans l10)
  have HB10 := Lib.hid (B9.out.later l10)
  have HI := Lib.hid (insert_mid w4.heap.size g rn c (k + 1) h7 1 ((k : Int) + 1) r (q0, q1, q2) w10 (own_later HO5.out HL10.out) HRN.out (by omega) hk1 (by omega) h10 (by omega) (Nat.le_trans (Nat.le_trans HGL.out.1 (Nat.le_of_lt HGL.out.2)) HL10.out.size))
  clear hw9 hs9 hh7 hw10 l10 h10 B9 L59 z0 z1 z2 f0 f1 f2 y0 y1 y2 k0 k1 k2 u0 u1 u2
  refine HI.out.mono ?_
  rintro e w11 ⟨g2, c2, rfl, o11, g11⟩
  have hgh : g < h5 := by have := HGL.out.2; omega
  have hl1 : (insL r (k + 1) (q0, q1, q2)).length = rn + 1 := by rw [insL_len, HRN.out]
  rw [hl1] at o11 ⊢
  have b11 : Blk w11 h5 #[.int .i64 p0, .int .i64 p1, .string p2] 29 := (g11.block h5 HB10.out.lt (by intro e; injection e with e; omega)).trans HB10.out
  have HO11 := Lib.hid o11
  have HL11 := Lib.hid (show Later w w11 from Later.of ((HL5.out.trans HL10.out).below.grown g11 (HL5.out.trans HL10.out).size fun q hq => by injection hq with hq; have h1 := HGL.out.1; have h2 := HL4.out.size; omega))
  have m0 := b11.cell 0 _ rfl
  have m1 := b11.cell 1 _ rfl
  have m2 := b11.cell 2 _ rfl
  have HWD := Lib.hid (wider_any p0 p1 p2 w11)
  have hk2 : (k : Int) < (rn : Int) + 1 := by omega
  clear HI o11 g11 b11
  go_wp2_with fail
  refine HWD.out.mono ?_
  rintro e w12 ⟨rfl, l12⟩
  have o12 := own_later HO11.out l12
  have hkl : k < (insL r (k + 1) (q0, q1, q2)).length := by rw [hl1]; omega
  have hx2 := fl_get (insL r (k + 1) (q0, q1, q2)) k hkl
  have n0 := o12.cellAt (k * 3) (by omega)
  have n1 := o12.cellAt (k * 3 + 1) (by omega)
  have n2 := o12.cellAt (k * 3 + 2) (by omega)
  rw [hx2.1] at n0
  rw [hx2.2.1] at n1
  rw [hx2.2.2] at n2
  have r0 := o12.frozenAt (k * 3)
  have r1 := o12.frozenAt (k * 3 + 1)
  have r2 := o12.frozenAt (k * 3 + 2)
  obtain ⟨oz, gz⟩ := own_setCells (size := 3) (encV (wideT p0, p1, p2)) (k * 3) _ _ o12
  rw [fl_set _ k hkl] at oz
  have HOZ := Lib.hid oz
  have HLZ := Lib.hid (show Later w (w12.setCells g2 (k * 3) (encV (wideT p0, p1, p2))) from Later.of ((HL11.out.trans l12).below.grown gz (HL11.out.trans l12).size fun q hq => by injection hq with hq; have h1 := (HO11.out.lt g2 rfl).1; have h2 := HL4.out.size; omega))
  simp only [encV, World.setCells, Nat.add_assoc, Nat.reduceAdd] at HOZ HLZ
  clear o12 hx2 oz gz l12
  go_wp2_with fail
  go_ret2
  rw [HOUT.out] at HOZ
  have hol : out.length = rn + 1 := by rw [← HOUT.out, List.length_set, hl1]
  refine ⟨some ⟨g2, 0, none⟩, c2, ?_, ?_, (fun h => by cases h), HLZ.out⟩
  · rw [hol]; rfl
  · rw [hol]; exact own_base HOZ.out HL4.out.size
end Go.Proofs.YtklohbglkbhjhaaDoor

/- A row that fits a schema, changed, fits the schema behind the change: mathematics. -/



namespace Go.Proofs.YtklohbglkbhjhaaDoor
open Go.RowKit
set_option linter.unusedVariables false

/-- Place by place. -/
def FitG (xs : List Col3) (r : List Val3) : Prop := r.length = xs.length ∧ ∀ (i : Nat) (x : Col3) (v : Val3), xs[i]? = some x → r[i]? = some v → FitsV x.2.2 v
theorem FitsL.g {xs : List Col3} {r : List Val3} (h : FitsL xs r) : FitG xs r := ⟨h.1, fun i x v hx hv => by
  obtain ⟨h1, rfl⟩ := List.getElem?_eq_some_iff.1 hx
  obtain ⟨h2, rfl⟩ := List.getElem?_eq_some_iff.1 hv
  exact h.2 i h1 h2⟩
theorem FitG.l {xs : List Col3} {r : List Val3} (h : FitG xs r) : FitsL xs r := ⟨h.1, fun i h1 h2 => h.2 i _ _ (List.getElem?_eq_getElem h1) (List.getElem?_eq_getElem h2)⟩
theorem ins_get {α : Type} (l : List α) (i : Nat) (x : α) (hi : i ≤ l.length) (j : Nat) : (l.take i ++ x :: l.drop i)[j]? = if j < i then l[j]? else if j = i then some x else l[j - 1]? := by
  by_cases h1 : j < i
  · rw [if_pos h1, List.getElem?_append_left (by rw [List.length_take]; omega), List.getElem?_take, if_pos h1]
  · rw [if_neg h1, List.getElem?_append_right (by rw [List.length_take]; omega), List.length_take, Nat.min_eq_left hi]
    by_cases h2 : j = i
    · subst h2; rw [if_pos rfl, Nat.sub_self]; rfl
    · rw [if_neg h2, show j - i = (j - 1 - i) + 1 by omega, List.getElem?_cons_succ, List.getElem?_drop, show i + (j - 1 - i) = j - 1 by omega]
theorem FitG.ins {xs : List Col3} {r : List Val3} (h : FitG xs r) {i : Nat} (hi : i ≤ xs.length) {x : Col3} {v : Val3} (hv : FitsV x.2.2 v) : FitG (insA xs i x) (insL r i v) := by
  have hl := h.1
  refine ⟨by rw [insA_len, insL_len, hl], fun j y u hy hu => ?_⟩
  unfold insA at hy
  unfold insL at hu
  rw [ins_get _ _ _ hi] at hy
  rw [ins_get _ _ _ (by omega)] at hu
  by_cases h1 : j < i
  · rw [if_pos h1] at hy hu; exact h.2 j _ _ hy hu
  · rw [if_neg h1] at hy hu
    by_cases h2 : j = i
    · rw [if_pos h2] at hy hu
      injection hy with hy; injection hu with hu; subst hy hu; exact hv
    · rw [if_neg h2] at hy hu; exact h.2 _ _ _ hy hu
theorem insL_end (r : List Val3) (v : Val3) : insL r r.length v = r ++ [v] := by unfold insL; rw [List.take_length, List.drop_length]
theorem FitG.erase {xs : List Col3} {r : List Val3} (h : FitG xs r) (k : Nat) : FitG (xs.eraseIdx k) (r.eraseIdx k) := by
  refine ⟨by rw [List.length_eraseIdx, List.length_eraseIdx, h.1], fun j y u hy hu => ?_⟩
  rw [List.getElem?_eraseIdx] at hy hu
  split at hy <;> rename_i h1
  · rw [if_pos h1] at hu; exact h.2 _ _ _ hy hu
  · rw [if_neg h1] at hu; exact h.2 _ _ _ hy hu
theorem FitG.retype {xs : List Col3} {r : List Val3} (h : FitG xs r) (k : Nat) (f : Col3 → Col3) (v : Val3) (hf : ∀ x, xs[k]? = some x → FitsV (f x).2.2 v) : FitG (xs.modify k f) (r.set k v) := by
  refine ⟨by rw [List.length_set, List.length_modify, h.1], fun j y u hy hu => ?_⟩
  rw [List.getElem?_modify] at hy
  rw [List.getElem?_set] at hu
  by_cases h1 : k = j
  · subst h1
    rw [if_pos rfl] at hu
    cases hx : xs[k]? with
    | none => rw [hx] at hy; simp at hy
    | some x =>
      rw [hx] at hy
      simp at hy
      split at hu
      · injection hu with hu; subst hu hy; exact hf x hx
      · cases hu
  · rw [if_neg h1] at hu
    cases hx : xs[j]? with
    | none => rw [hx] at hy; simp at hy
    | some x =>
      rw [hx] at hy
      simp [h1] at hy
      subst hy
      exact h.2 _ _ _ hx hu
theorem FitG.rename {xs : List Col3} {r : List Val3} (h : FitG xs r) (k : Nat) (f : Col3 → Col3) (hf : ∀ x, (f x).2.2 = x.2.2) : FitG (xs.modify k f) r := by
  refine ⟨by rw [List.length_modify, h.1], fun j y u hy hu => ?_⟩
  rw [List.getElem?_modify] at hy
  cases hx : xs[j]? with
  | none => rw [hx] at hy; simp at hy
  | some x =>
    rw [hx] at hy
    have := h.2 _ _ _ hx hu
    by_cases h1 : k = j
    · simp [h1] at hy; subst hy; rw [hf]; exact this
    · simp [h1] at hy; subst hy; exact this
theorem FitG.set_ {xs : List Col3} {r : List Val3} (h : FitG xs r) (k : Nat) (v : Val3) (hf : ∀ x, xs[k]? = some x → FitsV x.2.2 v) : FitG xs (r.set k v) := by
  refine ⟨by rw [List.length_set, h.1], fun j y u hy hu => ?_⟩
  rw [List.getElem?_set] at hu
  by_cases h1 : k = j
  · subst h1
    rw [if_pos rfl] at hu
    split at hu
    · injection hu with hu; subst hu; exact hf y hy
    · cases hu
  · rw [if_neg h1] at hu; exact h.2 _ _ _ hy hu
/-- What a change makes of a row; k: where the column lies. -/
def rowM (xs : List Col3) (c : Chg) (sep : Nat) (r : List Val3) : List Val3 :=
  if c.kind = 1 then r ++ [c.val]
  else match findI xs c.col with
  | none => r
  | some k =>
    if c.kind = 2 then r.eraseIdx k
    else if c.kind = 4 then r.set k (wideT (r.getD k (0, 0, ⟨#[]⟩)).1, (r.getD k (0, 0, ⟨#[]⟩)).2)
    else if c.kind = 5 then (insL r (k + 1) (cutV (r.getD k (0, 0, ⟨#[]⟩)) sep).2).set k (wideT (cutV (r.getD k (0, 0, ⟨#[]⟩)) sep).1.1, (cutV (r.getD k (0, 0, ⟨#[]⟩)) sep).1.2)
    else r
theorem cut_fits {x : Val3} (h : FitsV 4 x) (sep : Nat) : FitsV 4 (wideT (cutV x sep).1.1, (cutV x sep).1.2) ∧ FitsV 4 (cutV x sep).2 := by
  have hn : FitsV 4 ((0, 0, ⟨#[]⟩) : Val3) := ⟨by omega, .inl rfl, .inl ⟨rfl, rfl, rfl⟩⟩
  have hx : FitsV 4 (wideT x.1, x.2) := by
    obtain ⟨x1, x2, x3⟩ := x
    obtain ⟨h1, h2, h3⟩ := h
    dsimp only at h2 h3 ⊢
    have hw : wideT x1 = x1 := by unfold wideT; rcases h2 with h | h <;> subst h <;> rfl
    rw [hw]; exact ⟨h1, h2, h3⟩
  unfold cutV
  split
  · rename_i hc
    obtain ⟨x1, x2, x3⟩ := x
    obtain ⟨h1, h2, h3⟩ := h
    dsimp only at h2 h3 hc ⊢
    obtain ⟨rfl, hc⟩ := hc
    have hs : x3.size ≤ 20 := by unfold MayV at h3; omega
    refine ⟨⟨by omega, .inr rfl, ?_⟩, ⟨by omega, .inr rfl, ?_⟩⟩
    · refine .inr (.inr (.inr (.inr ⟨rfl, rfl, ?_⟩)))
      show (x3.extract 0 (Lib.indexByte x3.data.toList sep.toUInt8).toNat).size ≤ 20
      rw [ByteArray.size_extract]; omega
    · refine .inr (.inr (.inr (.inr ⟨rfl, rfl, ?_⟩)))
      show (x3.extract ((Lib.indexByte x3.data.toList sep.toUInt8).toNat + 1) x3.size).size ≤ 20
      rw [ByteArray.size_extract]; omega
  · exact ⟨hx, hn⟩
theorem typOf_atF {xs : List Col3} {k : Nat} {x : Col3} (h : xs[k]? = some x) : typOf xs k = x.2.2 := by
  unfold typOf; rw [List.getD_eq_getElem?_getD, h]; rfl
theorem add_fits {s t : St3} {c : Chg} {typ : Int} {val : Val3} {i : Nat} (h : addM s c typ val i = .ok t) : t.1 = insA s.1 i (s.2.1 + 1, c.name, typ) ∧ FitsV typ val := by
  unfold addM at h
  split at h
  · cases h
  · split at h
    · cases h
    · split at h
      · cases h
      · rename_i hv
        split at h
        · cases h
        · injection h with h
          subst h
          exact ⟨rfl, Decidable.not_not.1 hv⟩
theorem fits_changed {s t : St3} {c : Chg} {r : List Val3} (sep : Nat) (h : applyM s c = .ok t) (hr : FitsL s.1 r) : FitsL t.1 (rowM s.1 c sep r) := by
  have g := hr.g
  refine FitG.l ?_
  unfold applyM at h
  split at h
  case isFalse => cases h
  unfold changeM at h
  unfold rowM
  by_cases k1 : c.kind = 1
  · rw [if_pos k1] at h ⊢
    obtain ⟨e, hv⟩ := add_fits h
    rw [e, ← insL_end, g.1]
    exact g.ins (Nat.le_refl _) hv
  rw [if_neg k1] at h ⊢
  by_cases k6 : c.kind = 6
  · rw [if_pos k6] at h
    have e : t.1 = s.1 := by
      unfold resortM at h; split at h
      · cases h
      · injection h with h; subst h; rfl
    rw [e]
    split
    · exact g
    · rw [if_neg (by omega), if_neg (by omega), if_neg (by omega)]; exact g
  rw [if_neg k6] at h
  by_cases k7 : c.kind = 7
  · rw [if_pos k7] at h
    have e : t.1 = s.1 := by
      unfold repartM at h; split at h
      · cases h
      · split at h
        · cases h
        · injection h with h; subst h; rfl
    rw [e]
    split
    · exact g
    · rw [if_neg (by omega), if_neg (by omega), if_neg (by omega)]; exact g
  rw [if_neg k7] at h
  by_cases k8 : c.kind = 8
  · rw [if_pos k8] at h
    injection h with h
    subst h
    split
    · exact g
    · rw [if_neg (by omega), if_neg (by omega), if_neg (by omega)]; exact g
  rw [if_neg k8] at h
  split at h
  case isFalse => cases h
  cases hf : findI s.1 c.col with
  | none => rw [hf] at h; cases h
  | some k =>
    rw [hf] at h
    dsimp only at h ⊢
    obtain ⟨hk, _⟩ := findI_lt hf
    have hkx : s.1[k]? = some s.1[k] := List.getElem?_eq_getElem hk
    have hkr : r[k]? = some (r.getD k (0, 0, ⟨#[]⟩)) := by
      have : k < r.length := by rw [g.1]; exact hk
      rw [List.getD_eq_getElem?_getD, List.getElem?_eq_getElem this]; rfl
    have hfx := g.2 k _ _ hkx hkr
    generalize r.getD k (0, 0, ⟨#[]⟩) = x at hkr hfx ⊢
    by_cases k2 : c.kind = 2
    · rw [if_pos k2] at h ⊢
      unfold dropM at h
      split at h
      · cases h
      · injection h with h; subst h; exact g.erase k
    rw [if_neg k2] at h ⊢
    by_cases k3 : c.kind = 3
    · rw [if_pos k3] at h
      rw [if_neg (by omega), if_neg (by omega)]
      unfold renameM at h
      split at h
      · cases h
      · split at h
        · cases h
        · injection h with h; subst h; exact g.rename k _ fun x => rfl
    rw [if_neg k3] at h
    by_cases k4 : c.kind = 4
    · rw [if_pos k4] at h ⊢
      unfold widenM at h
      rw [typOf_atF hkx] at h
      generalize s.1[k] = y at hkx hfx h
      obtain ⟨y0, y1, y2⟩ := y
      obtain ⟨x1, x2, x3⟩ := x
      obtain ⟨h1, h2, h3⟩ := hfx
      dsimp only at h h1 h2 h3 ⊢
      split at h
      · rename_i hy
        subst hy
        injection h with h; subst h
        refine g.retype k _ _ fun z _ => ?_
        dsimp only
        unfold MayV at h3
        refine ⟨by omega, ?_, ?_⟩
        · rcases h2 with h2 | h2 <;> subst h2
          · exact .inl rfl
          · exact .inr rfl
        · rcases h2 with h2 | h2 <;> subst h2
          · show MayV 0 _ _; unfold MayV; omega
          · show MayV 1 _ _; unfold MayV; dsimp only; omega
      · split at h
        · rename_i hy
          subst hy
          injection h with h; subst h
          refine g.retype k _ _ fun z _ => ?_
          dsimp only
          unfold MayV at h3
          refine ⟨by omega, ?_, ?_⟩
          · rcases h2 with h2 | h2 <;> subst h2
            · exact .inl rfl
            · exact .inr rfl
          · rcases h2 with h2 | h2 <;> subst h2
            · show MayV 0 _ _; unfold MayV; omega
            · show MayV 2 _ _; unfold MayV; dsimp only; omega
        · cases h
    rw [if_neg k4] at h ⊢
    by_cases k5 : c.kind = 5
    · rw [if_pos k5] at h ⊢
      unfold splitM at h
      rw [typOf_atF hkx] at h
      split at h
      · cases h
      · rename_i hy
        have hy := Decidable.not_not.1 hy
        split at h
        · cases h
        · obtain ⟨e, hv⟩ := add_fits h
          rw [hy] at hfx
          obtain ⟨f1, f2⟩ := cut_fits hfx sep
          rw [e]
          refine (g.ins (i := k + 1) (by omega) (x := (s.2.1 + 1, c.name, 4)) f2).set_ k _ fun z hz => ?_
          unfold insA at hz
          rw [ins_get _ _ _ (by omega), if_pos (by omega), hkx] at hz
          injection hz with hz
          subst hz
          rw [hy]; exact f1
    · rw [if_neg k5] at h ⊢
      unfold recodeM at h
      split at h
      · cases h
      · injection h with h; subst h; exact g
theorem applyM_may {s t : St3} {c : Chg} (h : applyM s c = .ok t) : MayS s.1 s.2.1 := by
  unfold applyM at h
  split at h
  · rename_i h1; exact h1.1
  · cases h
theorem applyM_col {s t : St3} {c : Chg} (h : applyM s c = .ok t) (hk : c.kind = 2 ∨ c.kind = 4 ∨ c.kind = 5) : (findI s.1 c.col).isSome = true := by
  unfold applyM at h
  split at h
  case isFalse => cases h
  unfold changeM at h
  rw [if_neg (by omega), if_neg (by omega), if_neg (by omega), if_neg (by omega)] at h
  split at h
  case isFalse => cases h
  cases hf : findI s.1 c.col with
  | none => rw [hf] at h; cases h
  | some k => rfl
theorem rowM_len (xs : List Col3) (c : Chg) (sep : Nat) (r : List Val3) : (rowM xs c sep r).length ≤ r.length + 1 := by
  unfold rowM
  split
  · rw [List.length_append]; simp
  · split
    · omega
    · split
      · rw [List.length_eraseIdx]; split <;> omega
      · split
        · rw [List.length_set]; omega
        · split
          · rw [List.length_set, insL_len]; omega
          · omega
theorem rowM_stays {xs : List Col3} {c : Chg} {sep : Nat} {r : List Val3} (h : 6 ≤ c.kind) : rowM xs c sep r = r := by
  unfold rowM
  rw [if_neg (by omega)]
  split
  · rfl
  · rw [if_neg (by omega), if_neg (by omega), if_neg (by omega)]
end Go.Proofs.YtklohbglkbhjhaaDoor

/- change.Row: all arms in one. (tools/gen_chgZ.py) -/



namespace Go.Proofs.YtklohbglkbhjhaaDoor
open Go.RowKit
set_option linter.unusedVariables false

set_option maxRecDepth 100000 in
set_option maxHeartbeats 4000000 in
theorem row_add_some (V R : Option Addr) (vn vc rn rc : Nat) (last : Int) (xs : List Col3) (r : List Val3) ( col : Int) (nm : ByteArray) (ty v0 v1 : Int) (v2 : ByteArray) (sep : Nat) (N : Int) (w : World) (hs : S3 w) (hvn : vn = xs.length) (hrn : rn = r.length) (hl : vn ≤ 100) (hl2 : rn ≤ 100) (hV : Has w V (fc xs)) (hR : Has w R (fl r)) (hRn : R = none → rc = 0) (k : Nat) (hfi : findI xs col = some k) (hfit : FitsL xs r) (x : Val3) (hrx : r[k]? = some x) (hr0 : 0 < rn) :
    Calls Tryd.prog 56 #[.agg #[.slice V vn vc, .int .i64 last], chg 1 col nm ty v0 v1 v2 sep N, .slice R rn rc] w (RowOk (r ++ [(v0, v1, v2)]) w) := by
  obtain ⟨h0, hh0⟩ : ∃ x, w.heap.size = x := ⟨_, rfl⟩
  obtain ⟨w2, hw2⟩ : ∃ x : World, (w.alloc (.cells #[.slice V vn vc, .int .i64 last] 24)).alloc (.cells #[.int .i64 1, .int .i64 col, .string nm, .int .i64 ty, .int .i64 v0, .int .i64 v1, .string v2, .int .u8 sep, .int .i64 N] 31) = x := ⟨_, rfl⟩
  have l2 : Later w w2 := hw2 ▸ (Later.new w _).alloc _
  have bs : Blk w2 h0 #[.slice V vn vc, .int .i64 last] 24 := hw2 ▸ (Blk.new w _ _ _ hh0.symm).later (Later.new _ _)
  have bc : Blk w2 (h0 + 1) #[.int .i64 1, .int .i64 col, .string nm, .int .i64 ty, .int .i64 v0, .int .i64 v1, .string v2, .int .u8 sep, .int .i64 N] 31 := hw2 ▸ Blk.new _ _ _ _ (by simp; omega)
  have HB := Lib.hid (byID_any V vn vc last xs col w2 hvn (by omega) (hV.later l2))
  have HW2 := Lib.hid hw2
  have HS := Lib.hid hs
  have HL2 := Lib.hid l2
  have HV := Lib.hid hV
  have HR := Lib.hid hR
  have HVN := Lib.hid hvn
  have HRN := Lib.hid hrn
  have HBS := Lib.hid bs
  have HBC := Lib.hid bc
  have HNIL := Lib.hid hRn
  clear hs hvn hrn hV hR l2 hw2 hRn
  have HFI := Lib.hid hfi
  have HFIT := Lib.hid hfit
  have hkx : k < vn := by have := findI_ltR hfi; have := HVN.out; omega
  have HRK := Lib.hid (show rn = vn by have := hfit.1; have := HVN.out; have := HRN.out; omega)
  have hkr : k < r.length := by have := HRK.out; have := HRN.out; omega
  clear hfi hfit
  have HRX := Lib.hid (show r[k] = x from by rw [List.getElem?_eq_getElem hkr] at hrx; injection hrx)
  clear hrx
  obtain ⟨x0, x1, x2⟩ := x
  have a0 := bs.cell 0 _ rfl
  have a1 := bs.cell 1 _ rfl
  have d1 := bc.cell 1 _ rfl
  clear bs bc
  go_enter Tryd.func56, Tryd.ntmps56
  go_wp2_with fail
  rw [HW2.out]
  refine HB.out.mono ?_
  rintro e w3 ⟨rfl, l3⟩
  rw [HFI.out]
  have HL3 := Lib.hid (HL2.out.trans l3)
  have HBS3 := Lib.hid (HBS.out.later l3)
  have HBC3 := Lib.hid (HBC.out.later l3)
  have HF := Lib.hid (schFits_any V R vn vc rn rc last xs r w3 (HS.out.later HL3.out) HVN.out HRN.out (by omega) (by omega) (HV.out.later HL3.out) (HR.out.later HL3.out))
  have a0 := HBS3.out.cell 0 _ rfl
  have a1 := HBS3.out.cell 1 _ rfl
  have d0 := HBC3.out.cell 0 _ rfl
  clear HB HW2 HBS HBC HL2 d1 l3
  go_wp2_with fail
  refine HF.out.mono ?_
  rintro e w4 ⟨q, hq, rfl, l4⟩
  have HQ := Lib.hid hq
  have HL4 := Lib.hid (HL3.out.trans l4)
  have HBC4 := Lib.hid (HBC3.out.later l4)
  clear HF HBS3 HBC3 HL3 a0 a1 d0 hq l4
  have d0 := HBC4.out.cell 0 _ rfl
  have hqt : q = true := HQ.out.2 HFIT.out
  subst hqt
  have HC := Lib.hid (fun W (l : Later w4 W) => clone_any R rn rc r W HRN.out (by omega) (HR.out.later (HL4.out.trans l)) HNIL.out)
  have hkn : (k : Int) < (rn : Int) := by have := HRK.out; omega
  go_wp2_with fail
  refine (HC.out w4 (Later.refl _)).mono ?_
  rintro e w5 ⟨A, c, rfl, o5, n5, l5⟩
  rw [← HRN.out] at o5 ⊢
  obtain ⟨g, rfl⟩ := own_some o5 (by omega)
  have HO5 := Lib.hid o5
  have HL5 := Lib.hid (HL4.out.trans l5)
  have HBC5 := Lib.hid (HBC4.out.later l5)
  have HS45 := Lib.hid l5.size
  have hx := (fl_get r k hkr)
  have e0 := o5.cellAt (k * 3) (by omega)
  have e1 := o5.cellAt (k * 3 + 1) (by omega)
  have e2 := o5.cellAt (k * 3 + 2) (by omega)
  rw [hx.1] at e0
  rw [hx.2.1] at e1
  rw [hx.2.2] at e2
  rw [HRX.out] at e0 e1 e2
  have HGL := Lib.hid (o5.lt g rfl)
  dsimp only at e0 e1 e2
  have lz : Later w5 ((w5.alloc (.cells #[.int .i64 0, .int .i64 0, .string ⟨#[]⟩] 29)).alloc (.cells #[.int .i64 0, .int .i64 0, .string ⟨#[]⟩] 29)) := (Later.new _ _).alloc _
  have e0 := lz.cell e0
  have e1 := lz.cell e1
  have e2 := lz.cell e2
  obtain ⟨h5, hh5⟩ : ∃ x, w5.heap.size = x := ⟨_, rfl⟩
  obtain ⟨w6, hw6⟩ : ∃ x : World, (w5.alloc (.cells #[.int .i64 x0, .int .i64 x1, .string x2] 29)).alloc (.cells #[.int .i64 0, .int .i64 0, .string ⟨#[]⟩] 29) = x := ⟨_, rfl⟩
  have l6 : Later w5 w6 := hw6 ▸ (Later.new _ _).alloc _
  have b6 : Blk w6 h5 #[.int .i64 x0, .int .i64 x1, .string x2] 29 := hw6 ▸ (Blk.new w5 _ _ _ hh5.symm).later (Later.new _ _)
  have t6 : Blk w6 (h5 + 1) #[.int .i64 0, .int .i64 0, .string ⟨#[]⟩] 29 := hw6 ▸ Blk.new _ _ _ _ (by simp; omega)
  have HB6 := Lib.hid b6
  have HT6 := Lib.hid t6
  have HBC6 := Lib.hid (HBC5.out.later l6)
  have HL56 := Lib.hid l6
  have HW6 := Lib.hid hw6
  have HS5 := Lib.hid (show h0 + 2 ≤ h5 from by have h1 := block_lt_of_cell (HBC5.out.cell 0 _ rfl); dsimp only at h1; omega)
  clear hx o5 n5 l5 HC HBC4 d0 lz l6 b6 t6 hw6
  have d0 := ((Later.new w5 (.cells #[.int .i64 x0, .int .i64 x1, .string x2] 29)).alloc (.cells #[.int .i64 0, .int .i64 0, .string ⟨#[]⟩] 29)).cell (HBC5.out.cell 0 _ rfl)
  have d7 := ((Later.new w5 (.cells #[.int .i64 x0, .int .i64 x1, .string x2] 29)).alloc (.cells #[.int .i64 0, .int .i64 0, .string ⟨#[]⟩] 29)).cell (HBC5.out.cell 7 _ rfl)
  have d4 := ((Later.new w5 (.cells #[.int .i64 x0, .int .i64 x1, .string x2] 29)).alloc (.cells #[.int .i64 0, .int .i64 0, .string ⟨#[]⟩] 29)).cell (HBC5.out.cell 4 _ rfl)
  have d5 := ((Later.new w5 (.cells #[.int .i64 x0, .int .i64 x1, .string x2] 29)).alloc (.cells #[.int .i64 0, .int .i64 0, .string ⟨#[]⟩] 29)).cell (HBC5.out.cell 5 _ rfl)
  have d6 := ((Later.new w5 (.cells #[.int .i64 x0, .int .i64 x1, .string x2] 29)).alloc (.cells #[.int .i64 0, .int .i64 0, .string ⟨#[]⟩] 29)).cell (HBC5.out.cell 6 _ rfl)
  obtain ⟨w7, hw7⟩ : ∃ x : World, w6.alloc (.cells #[.int .i64 v0, .int .i64 v1, .string v2] 29) = x := ⟨_, rfl⟩
  have HW67 := Lib.hid (show ((w5.alloc (.cells #[.int .i64 x0, .int .i64 x1, .string x2] 29)).alloc (.cells #[.int .i64 0, .int .i64 0, .string ⟨#[]⟩] 29)).alloc (.cells #[.int .i64 v0, .int .i64 v1, .string v2] 29) = w7 from by rw [HW6.out, hw7])
  have l7 : Later w6 w7 := hw7 ▸ Later.new _ _
  have hs6 : w6.heap.size = h5 + 2 := by rw [← HW6.out, ← hh5]; simp
  have HH7 := Lib.hid (show Has w7 (some ⟨h5 + 2, 0, none⟩) (encV (v0, v1, v2)) from (hw7 ▸ (Blk.new w6 [.int .i64 v0, .int .i64 v1, .string v2].toArray 29 (h5 + 2) hs6.symm).has))
  have HO7 := Lib.hid (own_later HO5.out (HL56.out.trans l7))
  have HL7 := Lib.hid (HL5.out.trans (HL56.out.trans l7))
  have HSZ := Lib.hid (show w4.heap.size ≤ w7.heap.size from by have h1 := HL56.out.size; have h2 := l7.size; have h3 : w4.heap.size ≤ w5.heap.size := HS45.out; omega)
  clear hw7 l7 hs6
  go_wp2_with (at_builtin; rw [HW67.out]; go_loud (refine wpList_append_g _ rfl (.tmp 49) (.tmp 52) 33 rfl w4.heap.size 29 _ 3 32 Tryd.underlying33 info_v rfl (by decide) _ rn (fl r) rfl HO7.out (some ⟨h5 + 2, 0, none⟩) 1 1 (encV (v0, v1, v2)) rfl HH7.out rfl (by intro h; cases h) (by simp [encV, Value.oneCell']) (by unfold maxLen; omega) (by omega) HSZ.out ?_; intro A2 c2 w8 o2 g2 b2 n2; rw [fl_snoc] at o2; have HO2 := Lib.hid o2; have HL8 := Lib.hid (show Later w w8 from Later.of (HL7.out.below.trans (b2.mono HL4.out.size))); have HN2 := Lib.hid n2; clear o2 g2 b2 n2))
  all_goals (try go_wp2_with fail)
  go_ret2
  have hol : (r ++ [(v0, v1, v2)]).length = rn + 1 := by rw [List.length_append, HRN.out]; rfl
  exact ⟨A2, c2, by rw [hol]; rfl, by rw [hol]; exact own_base HO2.out HL4.out.size, HN2.out, HL8.out⟩

/-- A row that fits, by a change whose column there is where it asks for one. -/
theorem chRow_all (V R : Option Addr) (vn vc rn rc : Nat) (last : Int) (xs : List Col3) (r : List Val3) (ch : Chg) (sep : Nat) (w : World) (hs : S3 w) (hvn : vn = xs.length) (hrn : rn = r.length) (hl : vn ≤ 100) (hl2 : rn ≤ 100) (hV : Has w V (fc xs)) (hR : Has w R (fl r)) (hRn : R = none → rc = 0)
    (hfit : FitsL xs r) (hsep : ch.sep = (sep : Int)) (hs2 : sep < 256) (hr0 : 0 < rn) (hx : ∀ v ∈ r, v.2.2.size ≤ 1000) (hok : ch.kind = 2 ∨ ch.kind = 4 ∨ ch.kind = 5 → (findI xs ch.col).isSome = true) :
    Calls Tryd.prog 56 #[.agg #[.slice V vn vc, .int .i64 last], .agg (cvC ch).toArray, .slice R rn rc] w (RowOk (rowM xs ch sep r) w) := by
  obtain ⟨kind, col, nm, ty, ⟨v0, v1, v2⟩, sp, N⟩ := ch
  dsimp only at hsep hok
  subst hsep
  show Calls Tryd.prog 56 #[.agg #[.slice V vn vc, .int .i64 last], chg kind col nm ty v0 v1 v2 sep N, .slice R rn rc] w _
  unfold rowM
  dsimp only
  by_cases k1 : kind = 1
  · subst k1
    rw [if_pos rfl]
    cases hf : findI xs col with
    | none => exact row_add V R vn vc rn rc last xs r col nm ty v0 v1 v2 sep N w hs hvn hrn hl hl2 hV hR hRn hf hfit hr0
    | some k =>
      have hk : k < r.length := by have := (findI_lt hf).1; have := hfit.1; omega
      exact row_add_some V R vn vc rn rc last xs r col nm ty v0 v1 v2 sep N w hs hvn hrn hl hl2 hV hR hRn k hf hfit r[k] (List.getElem?_eq_getElem hk) hr0
  rw [if_neg k1]
  cases hf : findI xs col with
  | none =>
    rw [hf] at hok
    have h2 : kind ≠ 2 := fun h => by have := hok (.inl h); cases this
    have h4 : kind ≠ 4 := fun h => by have := hok (.inr (.inl h)); cases this
    have h5 : kind ≠ 5 := fun h => by have := hok (.inr (.inr h)); cases this
    exact row_same_none V R vn vc rn rc last xs r kind col nm ty v0 v1 v2 sep N w hs hvn hrn hl hl2 hV hR hRn hf hfit k1 h2 h4 h5
  | some k =>
    have hk : k < r.length := by have := (findI_lt hf).1; have := hfit.1; omega
    have hkr : r[k]? = some r[k] := List.getElem?_eq_getElem hk
    have hkd : r.getD k (0, 0, ⟨#[]⟩) = r[k] := by rw [List.getD_eq_getElem?_getD, hkr]; rfl
    dsimp only
    rw [hkd]
    by_cases k2 : kind = 2
    · subst k2
      rw [if_pos rfl]
      exact row_drop V R vn vc rn rc last xs r col nm ty v0 v1 v2 sep N w hs hvn hrn hl hl2 hV hR hRn k hf hfit r[k] hkr _ rfl
    rw [if_neg k2]
    by_cases k4 : kind = 4
    · subst k4
      rw [if_pos rfl]
      exact row_widen V R vn vc rn rc last xs r col nm ty v0 v1 v2 sep N w hs hvn hrn hl hl2 hV hR hRn k hf hfit r[k] hkr _ rfl
    rw [if_neg k4]
    by_cases k5 : kind = 5
    · subst k5
      rw [if_pos rfl]
      by_cases hke : k + 1 = rn
      · refine row_split V R vn vc rn rc last xs r col nm ty v0 v1 v2 sep N w hs hvn hrn hl hl2 hV hR hRn k hf hfit r[k] hkr (hx _ (List.getElem_mem hk)) _ rfl hke hs2 _ ?_
        rw [← insL_end, ← hrn, ← hke]
      · exact row_split_mid V R vn vc rn rc last xs r col nm ty v0 v1 v2 sep N w hs hvn hrn hl hl2 hV hR hRn k hf hfit r[k] hkr (hx _ (List.getElem_mem hk)) _ rfl (by omega) hs2 _ rfl
    rw [if_neg k5]
    exact row_same_some V R vn vc rn rc last xs r kind col nm ty v0 v1 v2 sep N w hs hvn hrn hl hl2 hV hR hRn k hf hfit r[k] hkr k1 k2 k4 k5
end Go.Proofs.YtklohbglkbhjhaaDoor

/- The walk of change.Rows: how many rows, or none. -/

namespace Go.Proofs.YtklohbglkbhjhaaDoor
open Go.RowKit
set_option linter.unusedVariables false

/-- What one row comes to. -/
def RowR (ok : Bool) (w : World) (e : Ending) (w' : World) : Prop := (ok = true → ∃ l, RowOk l w e w') ∧ (ok = false → RowNo w e w')
def RowsR (ok : Nat → Bool) (n : Nat) (w : World) (e : Ending) (w' : World) : Prop :=
  ((∀ i, i < n → ok i = true) → ∃ A c, e = .returned (.tuple #[.slice A n c, .bool true])) ∧ ((∃ i, i < n ∧ ok i = false) → e = .returned (.tuple #[.slice none 0 0, .bool false])) ∧ Later w w'
/-- Where the loop stands. -/
def RwI (ok : Nat → Bool) (n : Nat) (w : World) (cv iv : Value) (wr : World) : Prop :=
  ∃ (k m : Nat) (A : Option Addr) (c : Nat) (cs : List Value), cv = .slice A m c ∧ m = k ∧ iv = .int .i64 k ∧ k ≤ n ∧ wr.ownsRow w.heap.size 33 1 (.slice A m c) m cs ∧ (∀ i, i < k → ok i = true) ∧ Later w wr
theorem RwI.mk {ok : Nat → Bool} {n : Nat} {w wr : World} (y : Int) (k m : Nat) (A : Option Addr) (c : Nat) (cs : List Value) (hm : m = k) (hy : y = (k : Int)) (hk : k ≤ n) (ho : wr.ownsRow w.heap.size 33 1 (.slice A m c) m cs) (hall : ∀ i, i < k → ok i = true) (l : Later w wr) : RwI ok n w (.slice A m c) (.int .i64 y) wr := by
  subst hy; exact ⟨k, m, A, c, cs, rfl, hm, rfl, hk, ho, hall, l⟩

set_option maxRecDepth 100000 in
set_option maxHeartbeats 4000000 in
theorem chRows_any (V L : Option Addr) (vn vc n lc : Nat) (last kind col : Int) (nm : ByteArray) (ty v0 v1 : Int) (v2 : ByteArray) (sep : Nat) (N : Int) (ss : List SlV) (ok : Nat → Bool) (w : World) (hn : n = ss.length) (hl : n ≤ 1000) (hr : RowsAt w L ss)
    (hrow : ∀ i (h : i < ss.length) W, Later w W → Calls Tryd.prog 56 #[.agg #[.slice V vn vc, .int .i64 last], chg kind col nm ty v0 v1 v2 sep N, .slice ss[i].a ss[i].l.length ss[i].c] W (RowR (ok i) W)) :
    Calls Tryd.prog 34 #[.agg #[.slice V vn vc, .int .i64 last], chg kind col nm ty v0 v1 v2 sep N, .slice L n lc] w (RowsR ok n w) := by
  obtain ⟨h0, hh0⟩ : ∃ x, w.heap.size = x := ⟨_, rfl⟩
  obtain ⟨w2, hw2⟩ : ∃ x : World, (w.alloc (.cells #[.slice V vn vc, .int .i64 last] 24)).alloc (.cells #[.int .i64 kind, .int .i64 col, .string nm, .int .i64 ty, .int .i64 v0, .int .i64 v1, .string v2, .int .u8 sep, .int .i64 N] 31) = x := ⟨_, rfl⟩
  have l2 : Later w w2 := hw2 ▸ (Later.new w _).alloc _
  have bs : Blk w2 h0 #[.slice V vn vc, .int .i64 last] 24 := hw2 ▸ (Blk.new w _ _ _ hh0.symm).later (Later.new _ _)
  have bc : Blk w2 (h0 + 1) #[.int .i64 kind, .int .i64 col, .string nm, .int .i64 ty, .int .i64 v0, .int .i64 v1, .string v2, .int .u8 sep, .int .i64 N] 31 := hw2 ▸ Blk.new _ _ _ _ (by simp; omega)
  have HW2 := Lib.hid hw2
  have HBS := Lib.hid bs
  have HBC := Lib.hid bc
  have HR := Lib.hid hr
  have HN := Lib.hid hn
  have HROW := Lib.hid hrow
  have HI0 := Lib.hid (RwI.mk (ok := ok) (n := n) (w := w2) (wr := w2) 0 0 0 none 0 [] rfl rfl (Nat.zero_le _) (World.ownsRow_nil _ _ _ _) (fun i h => absurd h (Nat.not_lt_zero _)) (Later.refl _))
  have HL2 := Lib.hid l2
  clear hw2 l2 bs bc hr hn hrow
  go_enter Tryd.func34, Tryd.ntmps34
  go_wp2_with fail
  rw [HW2.out]
  go_loopw [8, 15] (fun cv iv wr => RwI ok n w2 cv iv wr) (fun _ i _ => n - (intOf i).toNat)
  case atStart => exact HI0.out
  case round =>
    obtain ⟨k, m, A, c, cs, rfl, rfl, rfl, hk, ho, hall, lat2⟩ := hrel
    have lat := HL2.out.trans lat2
    have HO := Lib.hid ho
    have HALL := Lib.hid hall
    have HLAT := Lib.hid lat
    have HLAT2 := Lib.hid lat2
    by_cases hlt : m < n
    · have hks : m < ss.length := by have := HN.out; omega
      obtain ⟨rb, ro, hA, cr, _⟩ := (HR.out.later lat).get m hks
      subst hA
      have bs := HBS.out.later lat2
      have bc := HBC.out.later lat2
      have a0 := bs.cell 0 _ rfl
      have a1 := bs.cell 1 _ rfl
      have d0 := bc.cell 0 _ rfl
      have d1 := bc.cell 1 _ rfl
      have d2 := bc.cell 2 _ rfl
      have d3 := bc.cell 3 _ rfl
      have d4 := bc.cell 4 _ rfl
      have d5 := bc.cell 5 _ rfl
      have d6 := bc.cell 6 _ rfl
      have d7 := bc.cell 7 _ rfl
      have d8 := bc.cell 8 _ rfl
      have HC := Lib.hid (HROW.out m hks wr lat)
      generalize ss[m].a = ra at cr HC
      generalize ss[m].c = rc at cr HC
      generalize ss[m].l.length = rl at cr HC
      have hmi : (m : Int) < (n : Int) := by omega
      clear bs bc lat lat2 ho hall HI0
      go_wp2_with fail
      refine HC.out.mono ?_
      intro e w3 h
      cases hok : ok m with
      | true =>
        obtain ⟨l, A3, c3, rfl, _, _, l3⟩ := h.1 hok
        generalize l.length = ln
        have HL3 := Lib.hid (HLAT.out.trans l3)
        have HL3b := Lib.hid (HLAT2.out.trans l3)
        have HO3 := Lib.hid (own_later HO.out l3)
        have HST := Lib.hid (show ∀ i, i < m + 1 → ok i = true from fun i hi => by
          rcases Nat.lt_or_ge i m with h' | h'
          · exact HALL.out i h'
          · obtain rfl : i = m := by omega
            exact hok)
        clear h l3 hok HC a0 a1 d0 d1 d2 d3 d4 d5 d6 d7 d8 cr
        go_wp2_with (at_builtin; go_loud (refine wpList_append_x _ rfl (.tmp 28) (.tmp 30) 65 rfl w2.heap.size 33 _ 1 24 Tryd.underlying65 info_row rfl (by decide) _ m cs rfl (own_later HO3.out (Later.new w3 _)) _ 0 1 1 [.slice A3 ln c3] rfl (Blk.new w3 [Value.slice A3 ln c3].toArray 33 _ rfl).has rfl (by simp [Value.oneCell']) (by unfold maxLen; omega) (by omega) (by have h1 := HL3b.out.size; simp; omega) ?_; intro A4 c4 w4 o4 g4 b4 hat hnl; have HO4 := Lib.hid o4; have HL4b := Lib.hid (show Later w2 w4 from Later.of ((HL3b.out.alloc _).below.trans b4)); clear o4 g4 b4 hat hnl))
        go_roundw
        all_goals first
          | exact RwI.mk _ (m + 1) _ _ _ _ (by omega) (by omega) hlt HO4.out HST.out HL4b.out
          | (simp [intOf]; done)
          | (simp [intOf]; omega)
          | trace_state
      | false =>
        obtain ⟨rfl, l3⟩ := h.2 hok
        have HL3 := Lib.hid (HLAT.out.trans l3)
        have HX := Lib.hid (show ∃ i, i < n ∧ ok i = false from ⟨m, hlt, hok⟩)
        clear h l3 hok HC
        go_wp2_with fail
        go_ret2
        exact ⟨(fun h => by obtain ⟨i, h1, h2⟩ := HX.out; rw [h i h1] at h2; cases h2), fun _ => rfl, HL3.out⟩
    · have hmn : m = n := by omega
      have HX := Lib.hid (show ∀ i, i < n → ok i = true from fun i hi => hall i (by omega))
      have HM := Lib.hid hmn
      clear hmn lat lat2 ho hall HI0
      go_wp2_with fail
      go_ret2
      refine ⟨fun _ => ⟨A, c, ?_⟩, fun h => ?_, HLAT.out⟩
      · rw [← HM.out]; rfl
      · obtain ⟨i, h1, h2⟩ := h
        rw [HX.out i h1] at h2; cases h2
end Go.Proofs.YtklohbglkbhjhaaDoor

/- The walk of law 16's begun. -/

namespace Go.Proofs.YtklohbglkbhjhaaDoor
open Go.RowKit
set_option linter.unusedVariables false

abbrev sA : ByteArray := ⟨#[97]⟩
abbrev sB : ByteArray := ⟨#[98]⟩
abbrev sXYZ : ByteArray := ⟨#[120, 58, 121, 58, 122]⟩
abbrev sX : ByteArray := ⟨#[120]⟩
abbrev sYZ : ByteArray := ⟨#[121, 58, 122]⟩
theorem cut_xyz : cutV (4, 0, sXYZ) 58 = ((4, 0, sX), (4, 0, sYZ)) := by
  have h : Lib.indexByte sXYZ.data.toList (58 : Nat).toUInt8 = 1 := by decide
  unfold cutV
  rw [if_pos ⟨rfl, by rw [h]; decide⟩, h]
  rfl
theorem may_text (s : ByteArray) (h : s.size ≤ 20) : FitsV 4 (4, 0, s) := ⟨by omega, .inr rfl, by show MayV 4 0 s.size; unfold MayV; omega⟩
theorem may_none (t : Int) (h : 1 ≤ t ∧ t ≤ 4) : FitsV t (0, 0, ⟨#[]⟩) := ⟨h, .inl rfl, by show MayV 0 0 0; unfold MayV; omega⟩
theorem fits_one (x : Col3) (v : Val3) (h : FitsV x.2.2 v) : FitsL [x] [v] := ⟨rfl, fun i h1 h2 => by
  have : i = 0 := by simp at h1; exact h1
  subst this; exact h⟩

set_option maxRecDepth 100000 in
set_option maxHeartbeats 4000000 in
theorem begun16_any (w : World) (hs : S3 w) : Calls Tryd.prog 32 #[] w fun e w' => e = .returned (.bool true) ∧ Later w w' := by
  obtain ⟨h0, hh0⟩ : ∃ x, w.heap.size = x := ⟨_, rfl⟩
  obtain ⟨w1, hw1⟩ : ∃ x : World, (w.alloc (.cells #[.int .i64 1, .string sA, .int .i64 4] 59)).alloc (.cells #[.slice (some ⟨h0, 0, none⟩) 1 1, .int .i64 1] 24) = x := ⟨_, rfl⟩
  obtain ⟨w3, hw3⟩ : ∃ x : World, w1.alloc (.cells #[.int .i64 4, .int .i64 0, .string sXYZ] 29) = x := ⟨_, rfl⟩
  have l1 : Later w w1 := hw1 ▸ (Later.new w _).alloc _
  have l3 : Later w1 w3 := hw3 ▸ Later.new w1 _
  have bc : Blk w1 h0 #[.int .i64 1, .string sA, .int .i64 4] 59 := hw1 ▸ (Blk.new w _ _ _ hh0.symm).later (Later.new _ _)
  have bs : Blk w1 (h0 + 1) #[.slice (some ⟨h0, 0, none⟩) 1 1, .int .i64 1] 24 := hw1 ▸ Blk.new _ _ _ _ (by simp; omega)
  have hs1 : w1.heap.size = h0 + 2 := by rw [← hw1, ← hh0]; simp
  have br : Blk w3 (h0 + 2) #[.int .i64 4, .int .i64 0, .string sXYZ] 29 := hw3 ▸ Blk.new w1 _ _ _ hs1.symm
  have HW3 := Lib.hid (show ((w.alloc (.cells #[.int .i64 1, .string sA, .int .i64 4] 59)).alloc (.cells #[.slice (some ⟨h0, 0, none⟩) 1 1, .int .i64 1] 24)).alloc (.cells #[.int .i64 4, .int .i64 0, .string sXYZ] 29) = w3 by rw [hw1, hw3])
  have HS := Lib.hid hs
  have HL3 := Lib.hid (l1.trans l3)
  have HV3 := Lib.hid (show Has w3 (some ⟨h0, 0, none⟩) (fc [(1, sA, 4)]) from (bc.later l3).has)
  have HBS3 := Lib.hid (bs.later l3)
  have HSPLIT := Lib.hid (row_split (some ⟨h0, 0, none⟩) (some ⟨h0 + 2, 0, none⟩) 1 1 1 1 1 [(1, sA, 4)] [(4, 0, sXYZ)] 1 sB 0 0 0 ⟨#[]⟩ 58 0 w3 (hs.later HL3.out) rfl rfl (by omega) (by omega) HV3.out br.has (by intro h; cases h) 0 rfl (fits_one _ _ (may_text _ (by decide))) (4, 0, sXYZ) rfl (by decide) _ cut_xyz rfl (by omega) [(4, 0, sX), (4, 0, sYZ)] rfl)
  clear hw1 hw3 l1 l3 bc bs br hs1 hs
  go_enter Tryd.func32, Tryd.ntmps32
  go_wp2_with fail
  rw [HW3.out]
  refine HSPLIT.out.mono ?_
  rintro e w4 ⟨A, c, rfl, o4, _, l4⟩
  have e4 : ([(4, 0, sX), (4, 0, sYZ)] : List Val3).length = 2 := rfl
  rw [e4] at o4 ⊢
  obtain ⟨g4, rfl⟩ := own_some o4 (by omega)
  have x2 := o4.cellAt 2 (by omega)
  have x5 := o4.cellAt 5 (by omega)
  have X2 := Lib.hid (show w4.cell? ⟨g4, 2, none⟩ = some (.string sX) from x2)
  have X5 := Lib.hid (show w4.cell? ⟨g4, 5, none⟩ = some (.string sYZ) from x5)
  have hb4 := HBS3.out.later l4
  have s0 := hb4.cell 0 _ rfl
  have s1 := hb4.cell 1 _ rfl
  obtain ⟨h4, hh4⟩ : ∃ x, w4.heap.size = x := ⟨_, rfl⟩
  obtain ⟨w5, hw5⟩ : ∃ x : World, w4.alloc (.cells #[.int .i64 0, .int .i64 0, .string ⟨#[]⟩] 29) = x := ⟨_, rfl⟩
  have l5 : Later w4 w5 := hw5 ▸ Later.new w4 _
  have b5 : Blk w5 h4 #[.int .i64 0, .int .i64 0, .string ⟨#[]⟩] 29 := hw5 ▸ Blk.new w4 _ _ _ hh4.symm
  have hs5 : w5.heap.size = h4 + 1 := by rw [← hw5, ← hh4]; simp
  obtain ⟨w6, hw6⟩ : ∃ x : World, w5.alloc (.cells #[.slice (some ⟨h4, 0, none⟩) 1 1] 33) = x := ⟨_, rfl⟩
  have l6 : Later w5 w6 := hw6 ▸ Later.new w5 _
  have b6 : Blk w6 (h4 + 1) #[.slice (some ⟨h4, 0, none⟩) 1 1] 33 := hw6 ▸ Blk.new w5 _ _ _ hs5.symm
  have HW6 := Lib.hid (show (w4.alloc (.cells #[.int .i64 0, .int .i64 0, .string ⟨#[]⟩] 29)).alloc (.cells #[.slice (some ⟨h4, 0, none⟩) 1 1] 33) = w6 by rw [hw5, hw6])
  have HL46 := Lib.hid (l5.trans l6)
  have HL6 := Lib.hid (HL3.out.trans (l4.trans (l5.trans l6)))
  have HV6 := Lib.hid (HV3.out.later (l4.trans (l5.trans l6)))
  have HB5 := Lib.hid (b5.later l6)
  have HRW := Lib.hid (chRows_any (some ⟨h0, 0, none⟩) (some ⟨h4 + 1, 0, none⟩) 1 1 1 1 1 8 0 ⟨#[]⟩ 0 0 0 ⟨#[]⟩ 0 0 [⟨some ⟨h4, 0, none⟩, 1, [(0, 0, ⟨#[]⟩)]⟩] (fun _ => true) w6 rfl (by omega) ⟨b6.has, fun s hs => by
      rw [List.mem_singleton] at hs
      subst hs
      exact ⟨HasX.of HB5.out.has, Nat.le_refl _, (by omega : (1 : Nat) ≤ 9223372036854775807), fun h => by cases h⟩⟩
    (fun i h W l => by
      have hi : i = 0 := by simp at h; exact h
      subst hi
      exact (row_same_none (some ⟨h0, 0, none⟩) (some ⟨h4, 0, none⟩) 1 1 1 1 1 [(1, sA, 4)] [(0, 0, ⟨#[]⟩)] 8 0 ⟨#[]⟩ 0 0 0 ⟨#[]⟩ 0 0 W (HS.out.later (HL6.out.trans l)) rfl rfl (by omega) (by omega) (HV6.out.later l) (HB5.out.later l).has (by intro h; cases h) rfl (fits_one _ _ (may_none 4 (by omega))) (by omega) (by omega) (by omega) (by omega)).mono fun e w' h => ⟨fun _ => ⟨_, h⟩, fun h => by cases h⟩))
  clear o4 l4 x2 x5 hb4 hw5 l5 b5 hs5 hw6 l6 b6 HSPLIT
  go_wp2_with fail
  rw [HW6.out]
  refine HRW.out.mono ?_
  rintro e w7 ⟨hyes, _, l7⟩
  obtain ⟨A7, c7, rfl⟩ := hyes fun _ _ => rfl
  have hb7 := (HBS3.out)
  have HL7 := Lib.hid (HL6.out.trans l7)
  have HL47 := Lib.hid (HL46.out.trans l7)
  have HNO := Lib.hid (row_nofit (some ⟨h0, 0, none⟩) none 1 1 0 0 1 [(1, sA, 4)] [] 8 0 ⟨#[]⟩ 0 0 0 ⟨#[]⟩ 0 0 w7 (HS.out.later HL7.out) rfl rfl (by omega) (by omega) (HV6.out.later l7) (.inl rfl) (fun _ => rfl) none rfl (fun h => by have := h.1; simp at this))
  have s0 := HL47.out.cell s0
  have s1 := HL47.out.cell s1
  clear hyes l7 HRW hb7
  go_wp2_with fail
  refine HNO.out.mono ?_
  rintro e w8 ⟨rfl, l8⟩
  have x2 := l8.cell (HL47.out.cell X2.out)
  have x5 := l8.cell (HL47.out.cell X5.out)
  have HL8 := Lib.hid (HL7.out.trans l8)
  clear HNO l8 s0 s1
  go_wp2_with fail
  go_ret
  exact ⟨rfl, HL8.out⟩
end Go.Proofs.YtklohbglkbhjhaaDoor

/- The walks of package batch: height, Rows. -/

namespace Go.Proofs.YtklohbglkbhjhaaDoor
open Go.RowKit
set_option linter.unusedVariables false

/-- How many rows columns have: as many as the shortest. -/
def heightC : List (List Val3) → Nat
  | [] => 0
  | c :: r => r.foldl (fun n x => min n x.length) c.length
/-- The i-th row of columns; all of them. -/
def rowAt (cols : List (List Val3)) (i : Nat) : List Val3 := cols.map fun c => c.getD i (0, 0, ⟨#[]⟩)
def colsOf (ss : List SlV) : List (List Val3) := ss.map (·.l)

/-- Where height's loop stands. -/
def HgI (ss : List SlV) (w : World) (nv iv : Value) (wr : World) : Prop :=
  ∃ k n : Nat, nv = .int .i64 n ∧ iv = .int .i64 k ∧ k ≤ ss.length ∧ n = heightC (colsOf (ss.take (max k 1))) ∧ wr = w
theorem HgI.mk {ss : List SlV} {w wr : World} (x y : Int) (k n : Nat) (hx : x = (n : Int)) (hy : y = (k : Int)) (hk : k ≤ ss.length) (h : n = heightC (colsOf (ss.take (max k 1)))) (hw : wr = w) : HgI ss w (.int .i64 x) (.int .i64 y) wr := by
  subst hx hy; exact ⟨k, n, rfl, rfl, hk, h, hw⟩
/-- Where the outer loop stands: so many rows are made. -/
def RoI (cols : List (List Val3)) (w : World) (rv iv : Value) (wr : World) : Prop :=
  ∃ (k : Nat) (A : Option Addr) (n c : Nat) (rs : List SlV), rv = .slice A n c ∧ iv = .int .i64 k ∧ k ≤ heightC cols ∧ rs.map (·.l) = (List.range k).map (rowAt cols) ∧ RowsOn w.heap.size wr A n c rs ∧ Later w wr
theorem RoI.mk {cols : List (List Val3)} {w wr : World} (y : Int) (k : Nat) (A : Option Addr) (n c : Nat) (rs : List SlV) (hy : y = (k : Int)) (hk : k ≤ heightC cols) (h : rs.map (·.l) = (List.range k).map (rowAt cols)) (ho : RowsOn w.heap.size wr A n c rs) (L : Later w wr) : RoI cols w (.slice A n c) (.int .i64 y) wr := by
  subst hy; exact ⟨k, A, n, c, rs, rfl, rfl, hk, h, ho, L⟩
/-- Where the inner loop stands: so many columns are done. -/
def RiI (cols : List (List Val3)) (i : Nat) (ws : World) (rv jv : Value) (wr : World) : Prop :=
  ∃ (j : Nat) (R : Option Addr) (rn rc : Nat), rv = .slice R rn rc ∧ jv = .int .i64 j ∧ j ≤ cols.length ∧ rn = j ∧ wr.ownsRow ws.heap.size 29 3 (.slice R rn rc) rn (fl ((rowAt cols i).take j)) ∧ (R = none → rc = 0) ∧ Later ws wr
theorem RiI.mk {cols : List (List Val3)} {i : Nat} {ws wr : World} (y : Int) (j : Nat) (R : Option Addr) (rn rc : Nat) (hy : y = (j : Int)) (hj : j ≤ cols.length) (hrn : rn = j) (ho : wr.ownsRow ws.heap.size 29 3 (.slice R rn rc) rn (fl ((rowAt cols i).take j))) (hnil : R = none → rc = 0) (L : Later ws wr) : RiI cols i ws (.slice R rn rc) (.int .i64 y) wr := by
  subst hy; exact ⟨j, R, rn, rc, rfl, rfl, hj, hrn, ho, hnil, L⟩
end Go.Proofs.YtklohbglkbhjhaaDoor

/- slices.Equal and EqualFunc at rows; batch.SameRows; the document's SameRow, SameRows. (gen: XCell's sameValues) -/




namespace Go.Proofs.YtklohbglkbhjhaaDoor
open Go.RowKit
set_option linter.unusedVariables false

set_option maxRecDepth 100000 in
theorem refSameRow_any (A B : Option Addr) (n m ca cb : Nat) (a b : List Val3) (w : World) (hn : n = a.length) (hm : m = b.length) (ha : Has w A (fl a)) (hb : Has w B (fl b)) (hl : n ≤ 100000) (hl2 : m ≤ 100000) :
    Calls Tryd.prog 35 #[.slice A n ca, .slice B m cb] w (TellsP (a = b) w) := by
  have H := Lib.hid (sameValues_any A B ca cb a b w ha hb (by omega) (by omega))
  rw [← hn, ← hm] at H
  clear hn hm ha hb hl hl2
  go_enter Tryd.func35, Tryd.ntmps35
  go_wp2_with fail
  refine H.out.mono ?_
  rintro e w' ⟨r, hr, rfl, L⟩
  have HP := Lib.hid (show TellsP (a = b) w (.returned (.bool r)) w' from ⟨r, hr, rfl, L⟩)
  clear hr L H
  go_wp2_with fail
  go_ret
  exact HP.out
end Go.Proofs.YtklohbglkbhjhaaDoor
