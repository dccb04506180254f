
import Derived.Test.YtklohbglkbhjhaaDoorChgE
import Derived.Test.YtklohbglkbhjhaaDoorLight
import Derived.Test.YtklohbglkbhjhaaDoorRowsM
import Derived.Test.YtklohbglkbhjhaaDoorBase
import Derived.WalkKit
import Derived.Laws.OwnMore
import Derived.Laws.BytesArg
import Derived.Laws.Rows
import Derived.Deep.AppendLies
import Derived.Deep.Draws
import Derived.Test.YtklohbglkbhjhaaDoorChecked
import Derived.Deep.OwnRows
import Derived.Lib.Hide
import Derived.Deep.Quiet
import Derived.Laws.AppendOwnNone
import Derived.Lib.Strings
import Derived.Outline
import Derived.WalkLawsBesides
import Derived.WalkSpells
import Derived.PlainAid
import Derived.Deep.QuietTactic
import Derived.BigQuiet
import Derived.RegionTactic
import Derived.BigRegion
import Derived.Handy
import Derived.Laws.BitsAllLaws
import Derived.Deep.RegionWith
import Derived.Lib.AppendStr
import Derived.Deep.RegionLaw
import Derived.Maps.AppendAt
import Derived.OpenShut
import Derived.WideShapes
import Derived.ChangeArms
import Derived.Deep.Slices
import Derived.Sort.Grow
import Derived.Test.YtklohbglkbhjhaaDoorShelf
import Derived.Lib.IndexLaws
import Derived.Lib.SliceRun
import Derived.OrdersHeld
import Derived.LaidEql
import Derived.Stop.Asserts
import Derived.RowKitTokens
import Derived.Stop.IfaceNil
import Derived.Laws.BitsLemmas
import Derived.Laws.Bits64
import Derived.WalkSmall
import Derived.Lib.Bytealg
import Derived.Deep.SlicePairs
import Derived.Shelf.Abstract
/- The arms of change.Row. (tools/gen_chgR.py) -/



namespace Go.Proofs.YtklohbglkbhjhaaDoor
open Go.RowKit
set_option linter.unusedVariables false

/-- What Row gives: a row, or none. -/
def RowOk (l : List Val3) (w : World) (e : Ending) (w' : World) : Prop :=
  ∃ A c, e = .returned (.tuple #[.slice A l.length c, .bool true]) ∧ w'.ownsRow w.heap.size 29 3 (.slice A l.length c) l.length (fl l) ∧ (A = none → c = 0) ∧ Later w w'
def RowNo (w : World) (e : Ending) (w' : World) : Prop := e = .returned (.tuple #[.slice none 0 0, .bool false]) ∧ Later w w'
theorem own_base {w : World} {base base' : Nat} {e : TypeId} {k : Nat} {v : Value} {n : Nat} {xs : List Value} (h : w.ownsRow base e k v n xs) (hb : base' ≤ base) : w.ownsRow base' e k v n xs := by
  obtain ⟨h1, h2⟩ := h
  refine ⟨h1, ?_⟩
  rcases h2 with h2 | ⟨g, cap, cur, ha, hb2, hrest⟩
  · exact .inl h2
  · exact .inr ⟨g, cap, cur, ha, Nat.le_trans hb hb2, hrest⟩
theorem findI_ltR {l : List Col3} {id : Int} {k : Nat} (h : findI l id = some k) : k < l.length := by
  unfold findI at h
  rw [List.findIdx?_eq_some_iff_getElem] at h
  exact h.1
/-- What the change is, as it is handed in. -/
abbrev chg (kind col : Int) (nm : ByteArray) (ty v0 v1 : Int) (v2 : ByteArray) (sep : Nat) (N : Int) : Value := .agg #[.int .i64 kind, .int .i64 col, .string nm, .int .i64 ty, .int .i64 v0, .int .i64 v1, .string v2, .int .u8 sep, .int .i64 N]

set_option maxRecDepth 100000 in
set_option maxHeartbeats 4000000 in
theorem row_split (V R : Option Addr) (vn vc rn rc : Nat) (last : Int) (xs : List Col3) (r : List Val3) ( col : Int) (nm : ByteArray) (ty v0 v1 : Int) (v2 : ByteArray) (sep : Nat) (N : Int) (w : World) (hs : S3 w) (hvn : vn = xs.length) (hrn : rn = r.length) (hl : vn ≤ 100) (hl2 : rn ≤ 100) (hV : Has w V (fc xs)) (hR : Has w R (fl r)) (hRn : R = none → rc = 0) (k : Nat) (hfi : findI xs col = some k) (hfit : FitsL xs r) (x : Val3) (hrx : r[k]? = some x) (hxs : x.2.2.size ≤ 1000) (p : Val3 × Val3) (hp : cutV x sep = p) (hk1 : k + 1 = rn) (hsep : sep < 256) (out : List Val3) (hout : (r ++ [p.2]).set k (wideT p.1.1, p.1.2) = out) :
    Calls Tryd.prog 56 #[.agg #[.slice V vn vc, .int .i64 last], chg 5 col nm ty v0 v1 v2 sep N, .slice R rn rc] w (RowOk out w) := by
  obtain ⟨h0, hh0⟩ : ∃ x, w.heap.size = x := ⟨_, rfl⟩
  obtain ⟨w2, hw2⟩ : ∃ x : World, (w.alloc (.cells #[.slice V vn vc, .int .i64 last] 24)).alloc (.cells #[.int .i64 5, .int .i64 col, .string nm, .int .i64 ty, .int .i64 v0, .int .i64 v1, .string v2, .int .u8 sep, .int .i64 N] 31) = x := ⟨_, rfl⟩
  have l2 : Later w w2 := hw2 ▸ (Later.new w _).alloc _
  have bs : Blk w2 h0 #[.slice V vn vc, .int .i64 last] 24 := hw2 ▸ (Blk.new w _ _ _ hh0.symm).later (Later.new _ _)
  have bc : Blk w2 (h0 + 1) #[.int .i64 5, .int .i64 col, .string nm, .int .i64 ty, .int .i64 v0, .int .i64 v1, .string v2, .int .u8 sep, .int .i64 N] 31 := hw2 ▸ Blk.new _ _ _ _ (by simp; omega)
  have HB := Lib.hid (byID_any V vn vc last xs col w2 hvn (by omega) (hV.later l2))
  have HW2 := Lib.hid hw2
  have HS := Lib.hid hs
  have HL2 := Lib.hid l2
  have HV := Lib.hid hV
  have HR := Lib.hid hR
  have HVN := Lib.hid hvn
  have HRN := Lib.hid hrn
  have HBS := Lib.hid bs
  have HBC := Lib.hid bc
  have HNIL := Lib.hid hRn
  clear hs hvn hrn hV hR l2 hw2 hRn
  have HFI := Lib.hid hfi
  have HFIT := Lib.hid hfit
  have hkx : k < vn := by have := findI_ltR hfi; have := HVN.out; omega
  have HRK := Lib.hid (show rn = vn by have := hfit.1; have := HVN.out; have := HRN.out; omega)
  have hkr : k < r.length := by have := HRK.out; have := HRN.out; omega
  clear hfi hfit
  have HOUT := Lib.hid hout
  have HRX := Lib.hid (show r[k] = x from by rw [List.getElem?_eq_getElem hkr] at hrx; injection hrx)
  have HCUT := Lib.hid (fun W => hp ▸ cut_any x.1 x.2.1 x.2.2 sep W hsep hxs)
  clear hout hrx hp
  obtain ⟨x0, x1, x2⟩ := x
  have a0 := bs.cell 0 _ rfl
  have a1 := bs.cell 1 _ rfl
  have d1 := bc.cell 1 _ rfl
  clear bs bc
  go_enter Tryd.func56, Tryd.ntmps56
  go_wp2_with fail
  rw [HW2.out]
  refine HB.out.mono ?_
  rintro e w3 ⟨rfl, l3⟩
  rw [HFI.out]
  have HL3 := Lib.hid (HL2.out.trans l3)
  have HBS3 := Lib.hid (HBS.out.later l3)
  have HBC3 := Lib.hid (HBC.out.later l3)
  have HF := Lib.hid (schFits_any V R vn vc rn rc last xs r w3 (HS.out.later HL3.out) HVN.out HRN.out (by omega) (by omega) (HV.out.later HL3.out) (HR.out.later HL3.out))
  have a0 := HBS3.out.cell 0 _ rfl
  have a1 := HBS3.out.cell 1 _ rfl
  have d0 := HBC3.out.cell 0 _ rfl
  clear HB HW2 HBS HBC HL2 d1 l3
  go_wp2_with fail
  refine HF.out.mono ?_
  rintro e w4 ⟨q, hq, rfl, l4⟩
  have HQ := Lib.hid hq
  have HL4 := Lib.hid (HL3.out.trans l4)
  have HBC4 := Lib.hid (HBC3.out.later l4)
  clear HF HBS3 HBC3 HL3 a0 a1 d0 hq l4
  have d0 := HBC4.out.cell 0 _ rfl
  have hqt : q = true := HQ.out.2 HFIT.out
  subst hqt
  have HC := Lib.hid (fun W (l : Later w4 W) => clone_any R rn rc r W HRN.out (by omega) (HR.out.later (HL4.out.trans l)) HNIL.out)
  have hkn : (k : Int) < (rn : Int) := by have := HRK.out; omega
  go_wp2_with fail
  refine (HC.out w4 (Later.refl _)).mono ?_
  rintro e w5 ⟨A, c, rfl, o5, n5, l5⟩
  rw [← HRN.out] at o5 ⊢
  obtain ⟨g, rfl⟩ := own_some o5 (by omega)
  have HO5 := Lib.hid o5
  have HL5 := Lib.hid (HL4.out.trans l5)
  have HBC5 := Lib.hid (HBC4.out.later l5)
  have hx := (fl_get r k hkr)
  have e0 := o5.cellAt (k * 3) (by omega)
  have e1 := o5.cellAt (k * 3 + 1) (by omega)
  have e2 := o5.cellAt (k * 3 + 2) (by omega)
  rw [hx.1] at e0
  rw [hx.2.1] at e1
  rw [hx.2.2] at e2
  rw [HRX.out] at e0 e1 e2
  have HGL := Lib.hid (o5.lt g rfl)
  dsimp only at e0 e1 e2
  have lz : Later w5 ((w5.alloc (.cells #[.int .i64 0, .int .i64 0, .string ⟨#[]⟩] 29)).alloc (.cells #[.int .i64 0, .int .i64 0, .string ⟨#[]⟩] 29)) := (Later.new _ _).alloc _
  have e0 := lz.cell e0
  have e1 := lz.cell e1
  have e2 := lz.cell e2
  obtain ⟨h5, hh5⟩ : ∃ x, w5.heap.size = x := ⟨_, rfl⟩
  obtain ⟨w6, hw6⟩ : ∃ x : World, (w5.alloc (.cells #[.int .i64 x0, .int .i64 x1, .string x2] 29)).alloc (.cells #[.int .i64 0, .int .i64 0, .string ⟨#[]⟩] 29) = x := ⟨_, rfl⟩
  have l6 : Later w5 w6 := hw6 ▸ (Later.new _ _).alloc _
  have b6 : Blk w6 h5 #[.int .i64 x0, .int .i64 x1, .string x2] 29 := hw6 ▸ (Blk.new w5 _ _ _ hh5.symm).later (Later.new _ _)
  have t6 : Blk w6 (h5 + 1) #[.int .i64 0, .int .i64 0, .string ⟨#[]⟩] 29 := hw6 ▸ Blk.new _ _ _ _ (by simp; omega)
  have HB6 := Lib.hid b6
  have HT6 := Lib.hid t6
  have HBC6 := Lib.hid (HBC5.out.later l6)
  have HL56 := Lib.hid l6
  have HW6 := Lib.hid hw6
  have HS5 := Lib.hid (show h0 + 2 ≤ h5 from by have h1 := block_lt_of_cell (HBC5.out.cell 0 _ rfl); dsimp only at h1; omega)
  clear hx o5 n5 l5 HC HBC4 d0 lz l6 b6 t6 hw6
  have d0 := ((Later.new w5 (.cells #[.int .i64 x0, .int .i64 x1, .string x2] 29)).alloc (.cells #[.int .i64 0, .int .i64 0, .string ⟨#[]⟩] 29)).cell (HBC5.out.cell 0 _ rfl)
  have d7 := ((Later.new w5 (.cells #[.int .i64 x0, .int .i64 x1, .string x2] 29)).alloc (.cells #[.int .i64 0, .int .i64 0, .string ⟨#[]⟩] 29)).cell (HBC5.out.cell 7 _ rfl)
  have hwk : IntKind.i64.wrap ((k : Int) + 1) = (k : Int) + 1 := IntWalk.i64_in _ ⟨by omega, by omega⟩
  go_wp2_with fail
  rw [HW6.out]
  refine (HCUT.out w6).mono ?_
  rintro e w7 ⟨rfl, l7⟩
  obtain ⟨⟨p0, p1, p2⟩, ⟨q0, q1, q2⟩⟩ := p
  dsimp only at HOUT ⊢
  have b7 := HB6.out.later l7
  have t7 := HT6.out.later l7
  have z0 := b7.cell 0 _ rfl
  have z1 := b7.cell 1 _ rfl
  have z2 := b7.cell 2 _ rfl
  have f0 := b7.frozen 0
  have f1 := b7.frozen 1
  have f2 := b7.frozen 2
  have b8 := three_blk b7 rfl (.int .i64 p0) (.int .i64 p1) (.string p2)
  have t8 := ((t7.far (p := ⟨h5, 0, none⟩) (by show h5 + 1 ≠ h5; omega) (.int .i64 p0)).far (p := ⟨h5, 1, none⟩) (by show h5 + 1 ≠ h5; omega) (.int .i64 p1)).far (p := ⟨h5, 2, none⟩) (by show h5 + 1 ≠ h5; omega) (.string p2)
  have y0 := t8.cell 0 _ rfl
  have y1 := t8.cell 1 _ rfl
  have y2 := t8.cell 2 _ rfl
  have k0 := t8.frozen 0
  have k1 := t8.frozen 1
  have k2 := t8.frozen 2
  have t9 := three_blk t8 rfl (.int .i64 q0) (.int .i64 q1) (.string q2)
  have b9 := ((b8.far (p := ⟨h5 + 1, 0, none⟩) (by show h5 ≠ h5 + 1; omega) (.int .i64 q0)).far (p := ⟨h5 + 1, 1, none⟩) (by show h5 ≠ h5 + 1; omega) (.int .i64 q1)).far (p := ⟨h5 + 1, 2, none⟩) (by show h5 ≠ h5 + 1; omega) (.string q2)
  have u0 := t9.cell 0 _ rfl
  have u1 := t9.cell 1 _ rfl
  have u2 := t9.cell 2 _ rfl
  have L59 := Lib.hid (three_later (three_later (HL56.out.trans l7) (g := h5) (by omega) (.int .i64 p0) (.int .i64 p1) (.string p2)) (g := h5 + 1) (by omega) (.int .i64 q0) (.int .i64 q1) (.string q2))
  have B9 := Lib.hid b9
  clear HCUT HB6 HT6 HBC5 HBC6 HW6 HL56 d0 d7 e0 e1 e2 l7 b7 t7 b8 t8 t9 b9
  go_wp2_with fail
  obtain ⟨w9, hw9⟩ : ∃ x : World, ((((((w7).setCell ⟨h5, 0, none⟩ (.int .i64 p0)).setCell ⟨h5, 1, none⟩ (.int .i64 p1)).setCell ⟨h5, 2, none⟩ (.string p2)).setCell ⟨h5 + 1, 0, none⟩ (.int .i64 q0)).setCell ⟨h5 + 1, 1, none⟩ (.int .i64 q1)).setCell ⟨h5 + 1, 2, none⟩ (.string q2) = x := ⟨_, rfl⟩
  obtain ⟨h7, hh7⟩ : ∃ x, w7.heap.size = x := ⟨_, rfl⟩
  have hs9 : w9.heap.size = h7 := by rw [← hw9, ← hh7]; simp [World.setCell]
  rw [hw9] at B9 L59 ⊢
  rw [hh7]
  obtain ⟨w10, hw10⟩ : ∃ x : World, w9.alloc (.cells #[.int .i64 q0, .int .i64 q1, .string q2] 29) = x := ⟨_, rfl⟩
  have l10 : Later w9 w10 := hw10 ▸ Later.new w9 _
  have h10 : Has w10 (some ⟨h7, 0, none⟩) (encV (q0, q1, q2)) := (hw10 ▸ (Blk.new w9 [.int .i64 q0, .int .i64 q1, .string q2].toArray 29 h7 hs9.symm).has)
  rw [hw10]
  have HL10 := Lib.hid (L59.out.trans l10)
  have HB10 := Lib.hid (B9.out.later l10)
  have HI := Lib.hid (insert_end w4.heap.size g rn c h7 0 1 ((k : Int) + 1) r (q0, q1, q2) w10 (own_later HO5.out HL10.out) HRN.out (by omega) (by omega) h10 (Nat.le_trans (Nat.le_trans HGL.out.1 (Nat.le_of_lt HGL.out.2)) HL10.out.size))
  clear hw9 hs9 hh7 hw10 l10 h10 B9 L59 z0 z1 z2 f0 f1 f2 y0 y1 y2 k0 k1 k2 u0 u1 u2
  refine HI.out.mono ?_
  rintro e w11 ⟨g2, c2, rfl, o11, g11⟩
  have hgh : g < h5 := by have := HGL.out.2; omega
  have hl1 : (r ++ [(q0, q1, q2)]).length = rn + 1 := by rw [List.length_append, HRN.out]; rfl
  rw [hl1] at o11 ⊢
  have b11 : Blk w11 h5 #[.int .i64 p0, .int .i64 p1, .string p2] 29 := (g11.block h5 HB10.out.lt (by intro e; injection e with e; omega)).trans HB10.out
  have HO11 := Lib.hid o11
  have HL11 := Lib.hid (show Later w w11 from Later.of ((HL5.out.trans HL10.out).below.grown g11 (HL5.out.trans HL10.out).size fun q hq => by injection hq with hq; have h1 := HGL.out.1; have h2 := HL4.out.size; omega))
  have m0 := b11.cell 0 _ rfl
  have m1 := b11.cell 1 _ rfl
  have m2 := b11.cell 2 _ rfl
  have HWD := Lib.hid (wider_any p0 p1 p2 w11)
  have hk2 : (k : Int) < (rn : Int) + 1 := by omega
  clear HI o11 g11 b11
  go_wp2_with fail
  refine HWD.out.mono ?_
  rintro e w12 ⟨rfl, l12⟩
  have o12 := own_later HO11.out l12
  have hkl : k < (r ++ [(q0, q1, q2)]).length := by rw [hl1]; omega
  have hx2 := fl_get (r ++ [(q0, q1, q2)]) k hkl
  have n0 := o12.cellAt (k * 3) (by omega)
  have n1 := o12.cellAt (k * 3 + 1) (by omega)
  have n2 := o12.cellAt (k * 3 + 2) (by omega)
  rw [hx2.1] at n0
  rw [hx2.2.1] at n1
  rw [hx2.2.2] at n2
  have r0 := o12.frozenAt (k * 3)
  have r1 := o12.frozenAt (k * 3 + 1)
  have r2 := o12.frozenAt (k * 3 + 2)
  obtain ⟨oz, gz⟩ := own_setCells (size := 3) (encV (wideT p0, p1, p2)) (k * 3) _ _ o12
  rw [fl_set _ k hkl] at oz
  have HOZ := Lib.hid oz
  have HLZ := Lib.hid (show Later w (w12.setCells g2 (k * 3) (encV (wideT p0, p1, p2))) from Later.of ((HL11.out.trans l12).below.grown gz (HL11.out.trans l12).size fun q hq => by injection hq with hq; have h1 := (HO11.out.lt g2 rfl).1; have h2 := HL4.out.size; omega))
  simp only [encV, World.setCells, Nat.add_assoc, Nat.reduceAdd] at HOZ HLZ
  clear o12 hx2 oz gz l12
  go_wp2_with fail
  go_ret2
  rw [HOUT.out] at HOZ
  have hol : out.length = rn + 1 := by rw [← HOUT.out, List.length_set, hl1]
  refine ⟨some ⟨g2, 0, none⟩, c2, ?_, ?_, (fun h => by cases h), HLZ.out⟩
  · rw [hol]; rfl
  · rw [hol]; exact own_base HOZ.out HL4.out.size

set_option maxRecDepth 100000 in
set_option maxHeartbeats 4000000 in
theorem row_drop (V R : Option Addr) (vn vc rn rc : Nat) (last : Int) (xs : List Col3) (r : List Val3) ( col : Int) (nm : ByteArray) (ty v0 v1 : Int) (v2 : ByteArray) (sep : Nat) (N : Int) (w : World) (hs : S3 w) (hvn : vn = xs.length) (hrn : rn = r.length) (hl : vn ≤ 100) (hl2 : rn ≤ 100) (hV : Has w V (fc xs)) (hR : Has w R (fl r)) (hRn : R = none → rc = 0) (k : Nat) (hfi : findI xs col = some k) (hfit : FitsL xs r) (x : Val3) (hrx : r[k]? = some x) (out : List Val3) (hout : r.eraseIdx k = out) :
    Calls Tryd.prog 56 #[.agg #[.slice V vn vc, .int .i64 last], chg 2 col nm ty v0 v1 v2 sep N, .slice R rn rc] w (RowOk out w) := by
  obtain ⟨h0, hh0⟩ : ∃ x, w.heap.size = x := ⟨_, rfl⟩
  obtain ⟨w2, hw2⟩ : ∃ x : World, (w.alloc (.cells #[.slice V vn vc, .int .i64 last] 24)).alloc (.cells #[.int .i64 2, .int .i64 col, .string nm, .int .i64 ty, .int .i64 v0, .int .i64 v1, .string v2, .int .u8 sep, .int .i64 N] 31) = x := ⟨_, rfl⟩
  have l2 : Later w w2 := hw2 ▸ (Later.new w _).alloc _
  have bs : Blk w2 h0 #[.slice V vn vc, .int .i64 last] 24 := hw2 ▸ (Blk.new w _ _ _ hh0.symm).later (Later.new _ _)
  have bc : Blk w2 (h0 + 1) #[.int .i64 2, .int .i64 col, .string nm, .int .i64 ty, .int .i64 v0, .int .i64 v1, .string v2, .int .u8 sep, .int .i64 N] 31 := hw2 ▸ Blk.new _ _ _ _ (by simp; omega)
  have HB := Lib.hid (byID_any V vn vc last xs col w2 hvn (by omega) (hV.later l2))
  have HW2 := Lib.hid hw2
  have HS := Lib.hid hs
  have HL2 := Lib.hid l2
  have HV := Lib.hid hV
  have HR := Lib.hid hR
  have HVN := Lib.hid hvn
  have HRN := Lib.hid hrn
  have HBS := Lib.hid bs
  have HBC := Lib.hid bc
  have HNIL := Lib.hid hRn
  clear hs hvn hrn hV hR l2 hw2 hRn
  have HFI := Lib.hid hfi
  have HFIT := Lib.hid hfit
  have hkx : k < vn := by have := findI_ltR hfi; have := HVN.out; omega
  have HRK := Lib.hid (show rn = vn by have := hfit.1; have := HVN.out; have := HRN.out; omega)
  have hkr : k < r.length := by have := HRK.out; have := HRN.out; omega
  clear hfi hfit
  have HOUT := Lib.hid hout
  have HRX := Lib.hid (show r[k] = x from by rw [List.getElem?_eq_getElem hkr] at hrx; injection hrx)
  clear hout hrx
  obtain ⟨x0, x1, x2⟩ := x
  have a0 := bs.cell 0 _ rfl
  have a1 := bs.cell 1 _ rfl
  have d1 := bc.cell 1 _ rfl
  clear bs bc
  go_enter Tryd.func56, Tryd.ntmps56
  go_wp2_with fail
  rw [HW2.out]
  refine HB.out.mono ?_
  rintro e w3 ⟨rfl, l3⟩
  rw [HFI.out]
  have HL3 := Lib.hid (HL2.out.trans l3)
  have HBS3 := Lib.hid (HBS.out.later l3)
  have HBC3 := Lib.hid (HBC.out.later l3)
  have HF := Lib.hid (schFits_any V R vn vc rn rc last xs r w3 (HS.out.later HL3.out) HVN.out HRN.out (by omega) (by omega) (HV.out.later HL3.out) (HR.out.later HL3.out))
  have a0 := HBS3.out.cell 0 _ rfl
  have a1 := HBS3.out.cell 1 _ rfl
  have d0 := HBC3.out.cell 0 _ rfl
  clear HB HW2 HBS HBC HL2 d1 l3
  go_wp2_with fail
  refine HF.out.mono ?_
  rintro e w4 ⟨q, hq, rfl, l4⟩
  have HQ := Lib.hid hq
  have HL4 := Lib.hid (HL3.out.trans l4)
  have HBC4 := Lib.hid (HBC3.out.later l4)
  clear HF HBS3 HBC3 HL3 a0 a1 d0 hq l4
  have d0 := HBC4.out.cell 0 _ rfl
  have hqt : q = true := HQ.out.2 HFIT.out
  subst hqt
  have HC := Lib.hid (fun W (l : Later w4 W) => clone_any R rn rc r W HRN.out (by omega) (HR.out.later (HL4.out.trans l)) HNIL.out)
  have hkn : (k : Int) < (rn : Int) := by have := HRK.out; omega
  go_wp2_with fail
  refine (HC.out w4 (Later.refl _)).mono ?_
  rintro e w5 ⟨A, c, rfl, o5, n5, l5⟩
  rw [← HRN.out] at o5 ⊢
  obtain ⟨g, rfl⟩ := own_some o5 (by omega)
  have HO5 := Lib.hid o5
  have HL5 := Lib.hid (HL4.out.trans l5)
  have HBC5 := Lib.hid (HBC4.out.later l5)
  have hx := (fl_get r k hkr)
  have e0 := o5.cellAt (k * 3) (by omega)
  have e1 := o5.cellAt (k * 3 + 1) (by omega)
  have e2 := o5.cellAt (k * 3 + 2) (by omega)
  rw [hx.1] at e0
  rw [hx.2.1] at e1
  rw [hx.2.2] at e2
  rw [HRX.out] at e0 e1 e2
  have HGL := Lib.hid (o5.lt g rfl)
  dsimp only at e0 e1 e2
  have lz : Later w5 ((w5.alloc (.cells #[.int .i64 0, .int .i64 0, .string ⟨#[]⟩] 29)).alloc (.cells #[.int .i64 0, .int .i64 0, .string ⟨#[]⟩] 29)) := (Later.new _ _).alloc _
  have e0 := lz.cell e0
  have e1 := lz.cell e1
  have e2 := lz.cell e2
  obtain ⟨h5, hh5⟩ : ∃ x, w5.heap.size = x := ⟨_, rfl⟩
  obtain ⟨w6, hw6⟩ : ∃ x : World, (w5.alloc (.cells #[.int .i64 x0, .int .i64 x1, .string x2] 29)).alloc (.cells #[.int .i64 0, .int .i64 0, .string ⟨#[]⟩] 29) = x := ⟨_, rfl⟩
  have l6 : Later w5 w6 := hw6 ▸ (Later.new _ _).alloc _
  have b6 : Blk w6 h5 #[.int .i64 x0, .int .i64 x1, .string x2] 29 := hw6 ▸ (Blk.new w5 _ _ _ hh5.symm).later (Later.new _ _)
  have t6 : Blk w6 (h5 + 1) #[.int .i64 0, .int .i64 0, .string ⟨#[]⟩] 29 := hw6 ▸ Blk.new _ _ _ _ (by simp; omega)
  have HB6 := Lib.hid b6
  have HT6 := Lib.hid t6
  have HBC6 := Lib.hid (HBC5.out.later l6)
  have HL56 := Lib.hid l6
  have HW6 := Lib.hid hw6
  have HS5 := Lib.hid (show h0 + 2 ≤ h5 from by have h1 := block_lt_of_cell (HBC5.out.cell 0 _ rfl); dsimp only at h1; omega)
  clear hx o5 n5 l5 HC HBC4 d0 lz l6 b6 t6 hw6
  have d0 := ((Later.new w5 (.cells #[.int .i64 x0, .int .i64 x1, .string x2] 29)).alloc (.cells #[.int .i64 0, .int .i64 0, .string ⟨#[]⟩] 29)).cell (HBC5.out.cell 0 _ rfl)
  have d7 := ((Later.new w5 (.cells #[.int .i64 x0, .int .i64 x1, .string x2] 29)).alloc (.cells #[.int .i64 0, .int .i64 0, .string ⟨#[]⟩] 29)).cell (HBC5.out.cell 7 _ rfl)
  go_wp2_with fail
  rw [HW6.out]
  refine (delete1_any w4.heap.size g rn c k r w6 (own_later HO5.out HL56.out) HRN.out (by have := HRN.out; omega) (by omega)).mono ?_
  rintro e w7 ⟨rfl, o7, g7⟩
  rw [HOUT.out] at o7
  have hol : out.length = rn - 1 := by rw [← HOUT.out, List.length_eraseIdx, if_pos hkr, HRN.out]
  have HO7 := Lib.hid o7
  have HL7 := Lib.hid (show Later w w7 from Later.of ((HL5.out.trans HL56.out).below.grown g7 (HL5.out.trans HL56.out).size fun q hq => by injection hq with hq; have h1 := HGL.out.1; have h2 := HL4.out.size; omega))
  clear o7 g7 HBC6 HBC5 HB6 HT6 d0 d7 e0 e1 e2
  go_wp2_with fail
  go_ret2
  refine ⟨some ⟨g, 0, none⟩, c, ?_, ?_, (fun h => by cases h), HL7.out⟩
  · rw [hol]; rfl
  · rw [hol]; exact own_base HO7.out HL4.out.size

set_option maxRecDepth 100000 in
set_option maxHeartbeats 4000000 in
theorem row_same_some (V R : Option Addr) (vn vc rn rc : Nat) (last : Int) (xs : List Col3) (r : List Val3) (kind col : Int) (nm : ByteArray) (ty v0 v1 : Int) (v2 : ByteArray) (sep : Nat) (N : Int) (w : World) (hs : S3 w) (hvn : vn = xs.length) (hrn : rn = r.length) (hl : vn ≤ 100) (hl2 : rn ≤ 100) (hV : Has w V (fc xs)) (hR : Has w R (fl r)) (hRn : R = none → rc = 0) (k : Nat) (hfi : findI xs col = some k) (hfit : FitsL xs r) (x : Val3) (hrx : r[k]? = some x) (h1 : kind ≠ 1) (h2 : kind ≠ 2) (h4 : kind ≠ 4) (h5 : kind ≠ 5) :
    Calls Tryd.prog 56 #[.agg #[.slice V vn vc, .int .i64 last], chg kind col nm ty v0 v1 v2 sep N, .slice R rn rc] w (RowOk r w) := by
  obtain ⟨h0, hh0⟩ : ∃ x, w.heap.size = x := ⟨_, rfl⟩
  obtain ⟨w2, hw2⟩ : ∃ x : World, (w.alloc (.cells #[.slice V vn vc, .int .i64 last] 24)).alloc (.cells #[.int .i64 kind, .int .i64 col, .string nm, .int .i64 ty, .int .i64 v0, .int .i64 v1, .string v2, .int .u8 sep, .int .i64 N] 31) = x := ⟨_, rfl⟩
  have l2 : Later w w2 := hw2 ▸ (Later.new w _).alloc _
  have bs : Blk w2 h0 #[.slice V vn vc, .int .i64 last] 24 := hw2 ▸ (Blk.new w _ _ _ hh0.symm).later (Later.new _ _)
  have bc : Blk w2 (h0 + 1) #[.int .i64 kind, .int .i64 col, .string nm, .int .i64 ty, .int .i64 v0, .int .i64 v1, .string v2, .int .u8 sep, .int .i64 N] 31 := hw2 ▸ Blk.new _ _ _ _ (by simp; omega)
  have HB := Lib.hid (byID_any V vn vc last xs col w2 hvn (by omega) (hV.later l2))
  have HW2 := Lib.hid hw2
  have HS := Lib.hid hs
  have HL2 := Lib.hid l2
  have HV := Lib.hid hV
  have HR := Lib.hid hR
  have HVN := Lib.hid hvn
  have HRN := Lib.hid hrn
  have HBS := Lib.hid bs
  have HBC := Lib.hid bc
  have HNIL := Lib.hid hRn
  clear hs hvn hrn hV hR l2 hw2 hRn
  have HFI := Lib.hid hfi
  have HFIT := Lib.hid hfit
  have hkx : k < vn := by have := findI_ltR hfi; have := HVN.out; omega
  have HRK := Lib.hid (show rn = vn by have := hfit.1; have := HVN.out; have := HRN.out; omega)
  have hkr : k < r.length := by have := HRK.out; have := HRN.out; omega
  clear hfi hfit
  have HRX := Lib.hid (show r[k] = x from by rw [List.getElem?_eq_getElem hkr] at hrx; injection hrx)
  clear hrx
  obtain ⟨x0, x1, x2⟩ := x
  have hk1 : (kind == 1) = false := by simp [h1]
  have hk2 : (kind == 2) = false := by simp [h2]
  have hk4 : (kind == 4) = false := by simp [h4]
  have hk5 : (kind == 5) = false := by simp [h5]
  clear h1 h2 h4 h5
  have a0 := bs.cell 0 _ rfl
  have a1 := bs.cell 1 _ rfl
  have d1 := bc.cell 1 _ rfl
  clear bs bc
  go_enter Tryd.func56, Tryd.ntmps56
  go_wp2_with fail
  rw [HW2.out]
  refine HB.out.mono ?_
  rintro e w3 ⟨rfl, l3⟩
  rw [HFI.out]
  have HL3 := Lib.hid (HL2.out.trans l3)
  have HBS3 := Lib.hid (HBS.out.later l3)
  have HBC3 := Lib.hid (HBC.out.later l3)
  have HF := Lib.hid (schFits_any V R vn vc rn rc last xs r w3 (HS.out.later HL3.out) HVN.out HRN.out (by omega) (by omega) (HV.out.later HL3.out) (HR.out.later HL3.out))
  have a0 := HBS3.out.cell 0 _ rfl
  have a1 := HBS3.out.cell 1 _ rfl
  have d0 := HBC3.out.cell 0 _ rfl
  clear HB HW2 HBS HBC HL2 d1 l3
  go_wp2_with fail
  refine HF.out.mono ?_
  rintro e w4 ⟨q, hq, rfl, l4⟩
  have HQ := Lib.hid hq
  have HL4 := Lib.hid (HL3.out.trans l4)
  have HBC4 := Lib.hid (HBC3.out.later l4)
  clear HF HBS3 HBC3 HL3 a0 a1 d0 hq l4
  have d0 := HBC4.out.cell 0 _ rfl
  have hqt : q = true := HQ.out.2 HFIT.out
  subst hqt
  have HC := Lib.hid (fun W (l : Later w4 W) => clone_any R rn rc r W HRN.out (by omega) (HR.out.later (HL4.out.trans l)) HNIL.out)
  have hkn : (k : Int) < (rn : Int) := by have := HRK.out; omega
  go_wp2_with fail
  refine (HC.out w4 (Later.refl _)).mono ?_
  rintro e w5 ⟨A, c, rfl, o5, n5, l5⟩
  rw [← HRN.out] at o5 ⊢
  obtain ⟨g, rfl⟩ := own_some o5 (by omega)
  have HO5 := Lib.hid o5
  have HL5 := Lib.hid (HL4.out.trans l5)
  have HBC5 := Lib.hid (HBC4.out.later l5)
  have hx := (fl_get r k hkr)
  have e0 := o5.cellAt (k * 3) (by omega)
  have e1 := o5.cellAt (k * 3 + 1) (by omega)
  have e2 := o5.cellAt (k * 3 + 2) (by omega)
  rw [hx.1] at e0
  rw [hx.2.1] at e1
  rw [hx.2.2] at e2
  rw [HRX.out] at e0 e1 e2
  have HGL := Lib.hid (o5.lt g rfl)
  dsimp only at e0 e1 e2
  have lz : Later w5 ((w5.alloc (.cells #[.int .i64 0, .int .i64 0, .string ⟨#[]⟩] 29)).alloc (.cells #[.int .i64 0, .int .i64 0, .string ⟨#[]⟩] 29)) := (Later.new _ _).alloc _
  have e0 := lz.cell e0
  have e1 := lz.cell e1
  have e2 := lz.cell e2
  obtain ⟨h5, hh5⟩ : ∃ x, w5.heap.size = x := ⟨_, rfl⟩
  obtain ⟨w6, hw6⟩ : ∃ x : World, (w5.alloc (.cells #[.int .i64 x0, .int .i64 x1, .string x2] 29)).alloc (.cells #[.int .i64 0, .int .i64 0, .string ⟨#[]⟩] 29) = x := ⟨_, rfl⟩
  have l6 : Later w5 w6 := hw6 ▸ (Later.new _ _).alloc _
  have b6 : Blk w6 h5 #[.int .i64 x0, .int .i64 x1, .string x2] 29 := hw6 ▸ (Blk.new w5 _ _ _ hh5.symm).later (Later.new _ _)
  have t6 : Blk w6 (h5 + 1) #[.int .i64 0, .int .i64 0, .string ⟨#[]⟩] 29 := hw6 ▸ Blk.new _ _ _ _ (by simp; omega)
  have HB6 := Lib.hid b6
  have HT6 := Lib.hid t6
  have HBC6 := Lib.hid (HBC5.out.later l6)
  have HL56 := Lib.hid l6
  have HW6 := Lib.hid hw6
  have HS5 := Lib.hid (show h0 + 2 ≤ h5 from by have h1 := block_lt_of_cell (HBC5.out.cell 0 _ rfl); dsimp only at h1; omega)
  clear hx o5 n5 l5 HC HBC4 d0 lz l6 b6 t6 hw6
  have d0 := ((Later.new w5 (.cells #[.int .i64 x0, .int .i64 x1, .string x2] 29)).alloc (.cells #[.int .i64 0, .int .i64 0, .string ⟨#[]⟩] 29)).cell (HBC5.out.cell 0 _ rfl)
  have d7 := ((Later.new w5 (.cells #[.int .i64 x0, .int .i64 x1, .string x2] 29)).alloc (.cells #[.int .i64 0, .int .i64 0, .string ⟨#[]⟩] 29)).cell (HBC5.out.cell 7 _ rfl)
  go_wp2_with fail
  rw [HW6.out]
  go_ret2
  exact ⟨some ⟨g, 0, none⟩, c, by rw [← HRN.out]; rfl, by rw [← HRN.out]; exact own_base (own_later HO5.out HL56.out) HL4.out.size, (fun h => by cases h), HL5.out.trans HL56.out⟩

set_option maxRecDepth 100000 in
set_option maxHeartbeats 4000000 in
theorem row_widen (V R : Option Addr) (vn vc rn rc : Nat) (last : Int) (xs : List Col3) (r : List Val3) ( col : Int) (nm : ByteArray) (ty v0 v1 : Int) (v2 : ByteArray) (sep : Nat) (N : Int) (w : World) (hs : S3 w) (hvn : vn = xs.length) (hrn : rn = r.length) (hl : vn ≤ 100) (hl2 : rn ≤ 100) (hV : Has w V (fc xs)) (hR : Has w R (fl r)) (hRn : R = none → rc = 0) (k : Nat) (hfi : findI xs col = some k) (hfit : FitsL xs r) (x : Val3) (hrx : r[k]? = some x) (out : List Val3) (hout : r.set k (wideT x.1, x.2) = out) :
    Calls Tryd.prog 56 #[.agg #[.slice V vn vc, .int .i64 last], chg 4 col nm ty v0 v1 v2 sep N, .slice R rn rc] w (RowOk out w) := by
  obtain ⟨h0, hh0⟩ : ∃ x, w.heap.size = x := ⟨_, rfl⟩
  obtain ⟨w2, hw2⟩ : ∃ x : World, (w.alloc (.cells #[.slice V vn vc, .int .i64 last] 24)).alloc (.cells #[.int .i64 4, .int .i64 col, .string nm, .int .i64 ty, .int .i64 v0, .int .i64 v1, .string v2, .int .u8 sep, .int .i64 N] 31) = x := ⟨_, rfl⟩
  have l2 : Later w w2 := hw2 ▸ (Later.new w _).alloc _
  have bs : Blk w2 h0 #[.slice V vn vc, .int .i64 last] 24 := hw2 ▸ (Blk.new w _ _ _ hh0.symm).later (Later.new _ _)
  have bc : Blk w2 (h0 + 1) #[.int .i64 4, .int .i64 col, .string nm, .int .i64 ty, .int .i64 v0, .int .i64 v1, .string v2, .int .u8 sep, .int .i64 N] 31 := hw2 ▸ Blk.new _ _ _ _ (by simp; omega)
  have HB := Lib.hid (byID_any V vn vc last xs col w2 hvn (by omega) (hV.later l2))
  have HW2 := Lib.hid hw2
  have HS := Lib.hid hs
  have HL2 := Lib.hid l2
  have HV := Lib.hid hV
  have HR := Lib.hid hR
  have HVN := Lib.hid hvn
  have HRN := Lib.hid hrn
  have HBS := Lib.hid bs
  have HBC := Lib.hid bc
  have HNIL := Lib.hid hRn
  clear hs hvn hrn hV hR l2 hw2 hRn
  have HFI := Lib.hid hfi
  have HFIT := Lib.hid hfit
  have hkx : k < vn := by have := findI_ltR hfi; have := HVN.out; omega
  have HRK := Lib.hid (show rn = vn by have := hfit.1; have := HVN.out; have := HRN.out; omega)
  have hkr : k < r.length := by have := HRK.out; have := HRN.out; omega
  clear hfi hfit
  have HOUT := Lib.hid hout
  have HRX := Lib.hid (show r[k] = x from by rw [List.getElem?_eq_getElem hkr] at hrx; injection hrx)
  clear hout hrx
  obtain ⟨x0, x1, x2⟩ := x
  have a0 := bs.cell 0 _ rfl
  have a1 := bs.cell 1 _ rfl
  have d1 := bc.cell 1 _ rfl
  clear bs bc
  go_enter Tryd.func56, Tryd.ntmps56
  go_wp2_with fail
  rw [HW2.out]
  refine HB.out.mono ?_
  rintro e w3 ⟨rfl, l3⟩
  rw [HFI.out]
  have HL3 := Lib.hid (HL2.out.trans l3)
  have HBS3 := Lib.hid (HBS.out.later l3)
  have HBC3 := Lib.hid (HBC.out.later l3)
  have HF := Lib.hid (schFits_any V R vn vc rn rc last xs r w3 (HS.out.later HL3.out) HVN.out HRN.out (by omega) (by omega) (HV.out.later HL3.out) (HR.out.later HL3.out))
  have a0 := HBS3.out.cell 0 _ rfl
  have a1 := HBS3.out.cell 1 _ rfl
  have d0 := HBC3.out.cell 0 _ rfl
  clear HB HW2 HBS HBC HL2 d1 l3
  go_wp2_with fail
  refine HF.out.mono ?_
  rintro e w4 ⟨q, hq, rfl, l4⟩
  have HQ := Lib.hid hq
  have HL4 := Lib.hid (HL3.out.trans l4)
  have HBC4 := Lib.hid (HBC3.out.later l4)
  clear HF HBS3 HBC3 HL3 a0 a1 d0 hq l4
  have d0 := HBC4.out.cell 0 _ rfl
  have hqt : q = true := HQ.out.2 HFIT.out
  subst hqt
  have HC := Lib.hid (fun W (l : Later w4 W) => clone_any R rn rc r W HRN.out (by omega) (HR.out.later (HL4.out.trans l)) HNIL.out)
  have hkn : (k : Int) < (rn : Int) := by have := HRK.out; omega
  go_wp2_with fail
  refine (HC.out w4 (Later.refl _)).mono ?_
  rintro e w5 ⟨A, c, rfl, o5, n5, l5⟩
  rw [← HRN.out] at o5 ⊢
  obtain ⟨g, rfl⟩ := own_some o5 (by omega)
  have HO5 := Lib.hid o5
  have HL5 := Lib.hid (HL4.out.trans l5)
  have HBC5 := Lib.hid (HBC4.out.later l5)
  have hx := (fl_get r k hkr)
  have e0 := o5.cellAt (k * 3) (by omega)
  have e1 := o5.cellAt (k * 3 + 1) (by omega)
  have e2 := o5.cellAt (k * 3 + 2) (by omega)
  rw [hx.1] at e0
  rw [hx.2.1] at e1
  rw [hx.2.2] at e2
  rw [HRX.out] at e0 e1 e2
  have HGL := Lib.hid (o5.lt g rfl)
  dsimp only at e0 e1 e2
  have lz : Later w5 ((w5.alloc (.cells #[.int .i64 0, .int .i64 0, .string ⟨#[]⟩] 29)).alloc (.cells #[.int .i64 0, .int .i64 0, .string ⟨#[]⟩] 29)) := (Later.new _ _).alloc _
  have e0 := lz.cell e0
  have e1 := lz.cell e1
  have e2 := lz.cell e2
  obtain ⟨h5, hh5⟩ : ∃ x, w5.heap.size = x := ⟨_, rfl⟩
  obtain ⟨w6, hw6⟩ : ∃ x : World, (w5.alloc (.cells #[.int .i64 x0, .int .i64 x1, .string x2] 29)).alloc (.cells #[.int .i64 0, .int .i64 0, .string ⟨#[]⟩] 29) = x := ⟨_, rfl⟩
  have l6 : Later w5 w6 := hw6 ▸ (Later.new _ _).alloc _
  have b6 : Blk w6 h5 #[.int .i64 x0, .int .i64 x1, .string x2] 29 := hw6 ▸ (Blk.new w5 _ _ _ hh5.symm).later (Later.new _ _)
  have t6 : Blk w6 (h5 + 1) #[.int .i64 0, .int .i64 0, .string ⟨#[]⟩] 29 := hw6 ▸ Blk.new _ _ _ _ (by simp; omega)
  have HB6 := Lib.hid b6
  have HT6 := Lib.hid t6
  have HBC6 := Lib.hid (HBC5.out.later l6)
  have HL56 := Lib.hid l6
  have HW6 := Lib.hid hw6
  have HS5 := Lib.hid (show h0 + 2 ≤ h5 from by have h1 := block_lt_of_cell (HBC5.out.cell 0 _ rfl); dsimp only at h1; omega)
  clear hx o5 n5 l5 HC HBC4 d0 lz l6 b6 t6 hw6
  have d0 := ((Later.new w5 (.cells #[.int .i64 x0, .int .i64 x1, .string x2] 29)).alloc (.cells #[.int .i64 0, .int .i64 0, .string ⟨#[]⟩] 29)).cell (HBC5.out.cell 0 _ rfl)
  have d7 := ((Later.new w5 (.cells #[.int .i64 x0, .int .i64 x1, .string x2] 29)).alloc (.cells #[.int .i64 0, .int .i64 0, .string ⟨#[]⟩] 29)).cell (HBC5.out.cell 7 _ rfl)
  have HWD := Lib.hid (wider_any x0 x1 x2 w6)
  have HO11 := Lib.hid (own_later HO5.out HL56.out)
  have HL11 := Lib.hid (HL5.out.trans HL56.out)
  have hl1 : r.length = rn := HRN.out.symm
  have hk2 : (k : Int) < (rn : Int) := by omega
  have m0 := ((Blk.new w5 #[.int .i64 x0, .int .i64 x1, .string x2] 29 h5 hh5.symm).later (Later.new _ (.cells #[.int .i64 0, .int .i64 0, .string ⟨#[]⟩] 29))).cell 0 _ rfl
  have m1 := ((Blk.new w5 #[.int .i64 x0, .int .i64 x1, .string x2] 29 h5 hh5.symm).later (Later.new _ (.cells #[.int .i64 0, .int .i64 0, .string ⟨#[]⟩] 29))).cell 1 _ rfl
  have m2 := ((Blk.new w5 #[.int .i64 x0, .int .i64 x1, .string x2] 29 h5 hh5.symm).later (Later.new _ (.cells #[.int .i64 0, .int .i64 0, .string ⟨#[]⟩] 29))).cell 2 _ rfl
  clear HBC6 HBC5 HB6 HT6 d7
  go_wp2_with fail
  rw [HW6.out]
  clear m0 m1 m2 e0 e1 e2 d0
  refine HWD.out.mono ?_
  rintro e w12 ⟨rfl, l12⟩
  have o12 := own_later HO11.out l12
  have hkl : k < r.length := by rw [hl1]; omega
  have hx2 := fl_get r k hkl
  have n0 := o12.cellAt (k * 3) (by omega)
  have n1 := o12.cellAt (k * 3 + 1) (by omega)
  have n2 := o12.cellAt (k * 3 + 2) (by omega)
  rw [hx2.1] at n0
  rw [hx2.2.1] at n1
  rw [hx2.2.2] at n2
  have r0 := o12.frozenAt (k * 3)
  have r1 := o12.frozenAt (k * 3 + 1)
  have r2 := o12.frozenAt (k * 3 + 2)
  obtain ⟨oz, gz⟩ := own_setCells (size := 3) (encV (wideT x0, x1, x2)) (k * 3) _ _ o12
  rw [fl_set _ k hkl] at oz
  have HOZ := Lib.hid oz
  have HLZ := Lib.hid (show Later w (w12.setCells g (k * 3) (encV (wideT x0, x1, x2))) from Later.of ((HL11.out.trans l12).below.grown gz (HL11.out.trans l12).size fun q hq => by injection hq with hq; have h1 := (HO11.out.lt g rfl).1; have h2 := HL4.out.size; omega))
  simp only [encV, World.setCells, Nat.add_assoc, Nat.reduceAdd] at HOZ HLZ
  clear o12 hx2 oz gz l12
  go_wp2_with fail
  go_ret2
  rw [HOUT.out] at HOZ
  have hol : out.length = rn := by rw [← HOUT.out, List.length_set, hl1]
  refine ⟨some ⟨g, 0, none⟩, c, ?_, ?_, (fun h => by cases h), HLZ.out⟩
  · rw [hol]; rfl
  · rw [hol]; exact own_base HOZ.out HL4.out.size

set_option maxRecDepth 100000 in
set_option maxHeartbeats 4000000 in
theorem row_same_none (V R : Option Addr) (vn vc rn rc : Nat) (last : Int) (xs : List Col3) (r : List Val3) (kind col : Int) (nm : ByteArray) (ty v0 v1 : Int) (v2 : ByteArray) (sep : Nat) (N : Int) (w : World) (hs : S3 w) (hvn : vn = xs.length) (hrn : rn = r.length) (hl : vn ≤ 100) (hl2 : rn ≤ 100) (hV : Has w V (fc xs)) (hR : Has w R (fl r)) (hRn : R = none → rc = 0) (hfi : findI xs col = none) (hfit : FitsL xs r) (h1 : kind ≠ 1) (h2 : kind ≠ 2) (h4 : kind ≠ 4) (h5 : kind ≠ 5) :
    Calls Tryd.prog 56 #[.agg #[.slice V vn vc, .int .i64 last], chg kind col nm ty v0 v1 v2 sep N, .slice R rn rc] w (RowOk r w) := by
  obtain ⟨h0, hh0⟩ : ∃ x, w.heap.size = x := ⟨_, rfl⟩
  obtain ⟨w2, hw2⟩ : ∃ x : World, (w.alloc (.cells #[.slice V vn vc, .int .i64 last] 24)).alloc (.cells #[.int .i64 kind, .int .i64 col, .string nm, .int .i64 ty, .int .i64 v0, .int .i64 v1, .string v2, .int .u8 sep, .int .i64 N] 31) = x := ⟨_, rfl⟩
  have l2 : Later w w2 := hw2 ▸ (Later.new w _).alloc _
  have bs : Blk w2 h0 #[.slice V vn vc, .int .i64 last] 24 := hw2 ▸ (Blk.new w _ _ _ hh0.symm).later (Later.new _ _)
  have bc : Blk w2 (h0 + 1) #[.int .i64 kind, .int .i64 col, .string nm, .int .i64 ty, .int .i64 v0, .int .i64 v1, .string v2, .int .u8 sep, .int .i64 N] 31 := hw2 ▸ Blk.new _ _ _ _ (by simp; omega)
  have HB := Lib.hid (byID_any V vn vc last xs col w2 hvn (by omega) (hV.later l2))
  have HW2 := Lib.hid hw2
  have HS := Lib.hid hs
  have HL2 := Lib.hid l2
  have HV := Lib.hid hV
  have HR := Lib.hid hR
  have HVN := Lib.hid hvn
  have HRN := Lib.hid hrn
  have HBS := Lib.hid bs
  have HBC := Lib.hid bc
  have HNIL := Lib.hid hRn
  clear hs hvn hrn hV hR l2 hw2 hRn
  have HFI := Lib.hid hfi
  have HFIT := Lib.hid hfit
  have HRK := Lib.hid (show rn = vn by have := hfit.1; have := HVN.out; have := HRN.out; omega)
  clear hfi hfit
  have hk1 : (kind == 1) = false := by simp [h1]
  have hk2 : (kind == 2) = false := by simp [h2]
  have hk4 : (kind == 4) = false := by simp [h4]
  have hk5 : (kind == 5) = false := by simp [h5]
  have HASK := Lib.hid (show asksK kind = false from by unfold asksK; simp [h2, h4, h5])
  clear h1 h2 h4 h5
  have a0 := bs.cell 0 _ rfl
  have a1 := bs.cell 1 _ rfl
  have d1 := bc.cell 1 _ rfl
  clear bs bc
  go_enter Tryd.func56, Tryd.ntmps56
  go_wp2_with fail
  rw [HW2.out]
  refine HB.out.mono ?_
  rintro e w3 ⟨rfl, l3⟩
  rw [HFI.out]
  have HL3 := Lib.hid (HL2.out.trans l3)
  have HBS3 := Lib.hid (HBS.out.later l3)
  have HBC3 := Lib.hid (HBC.out.later l3)
  have HF := Lib.hid (schFits_any V R vn vc rn rc last xs r w3 (HS.out.later HL3.out) HVN.out HRN.out (by omega) (by omega) (HV.out.later HL3.out) (HR.out.later HL3.out))
  have a0 := HBS3.out.cell 0 _ rfl
  have a1 := HBS3.out.cell 1 _ rfl
  have d0 := HBC3.out.cell 0 _ rfl
  clear HB HW2 HBS HBC HL2 d1 l3
  go_wp2_with fail
  refine HF.out.mono ?_
  rintro e w4 ⟨q, hq, rfl, l4⟩
  have HQ := Lib.hid hq
  have HL4 := Lib.hid (HL3.out.trans l4)
  have HBC4 := Lib.hid (HBC3.out.later l4)
  clear HF HBS3 HBC3 HL3 a0 a1 d0 hq l4
  have d0 := HBC4.out.cell 0 _ rfl
  have hqt : q = true := HQ.out.2 HFIT.out
  subst hqt
  have HC := Lib.hid (fun W (l : Later w4 W) => clone_any R rn rc r W HRN.out (by omega) (HR.out.later (HL4.out.trans l)) HNIL.out)
  go_wp2_with fail
  refine (asks_any kind w4).mono ?_
  rintro e wq ⟨rfl, rfl⟩
  rw [HASK.out]
  go_wp2_with fail
  refine (HC.out w4 (Later.refl _)).mono ?_
  rintro e w5 ⟨A, c, rfl, o5, n5, l5⟩
  rw [← HRN.out] at o5 ⊢
  have HO5 := Lib.hid o5
  have HN5 := Lib.hid n5
  have HL5 := Lib.hid (HL4.out.trans l5)
  have HBC5 := Lib.hid (HBC4.out.later l5)
  obtain ⟨h5, hh5⟩ : ∃ x, w5.heap.size = x := ⟨_, rfl⟩
  obtain ⟨w6, hw6⟩ : ∃ x : World, (w5.alloc (.cells #[.int .i64 0, .int .i64 0, .string ⟨#[]⟩] 29)).alloc (.cells #[.int .i64 0, .int .i64 0, .string ⟨#[]⟩] 29) = x := ⟨_, rfl⟩
  have l6 : Later w5 w6 := hw6 ▸ (Later.new _ _).alloc _
  have HBC6 := Lib.hid (HBC5.out.later l6)
  have HL56 := Lib.hid l6
  have HW6 := Lib.hid hw6
  clear o5 n5 l5 HC HBC4 d0 l6 hw6
  have d0 := ((Later.new w5 (.cells #[.int .i64 0, .int .i64 0, .string ⟨#[]⟩] 29)).alloc (.cells #[.int .i64 0, .int .i64 0, .string ⟨#[]⟩] 29)).cell (HBC5.out.cell 0 _ rfl)
  go_wp2_with fail
  rw [HW6.out]
  go_ret2
  exact ⟨A, c, by rw [← HRN.out]; rfl, by rw [← HRN.out]; exact own_base (own_later HO5.out HL56.out) HL4.out.size, HN5.out, HL5.out.trans HL56.out⟩

set_option maxRecDepth 100000 in
set_option maxHeartbeats 4000000 in
theorem row_nofit (V R : Option Addr) (vn vc rn rc : Nat) (last : Int) (xs : List Col3) (r : List Val3) (kind col : Int) (nm : ByteArray) (ty v0 v1 : Int) (v2 : ByteArray) (sep : Nat) (N : Int) (w : World) (hs : S3 w) (hvn : vn = xs.length) (hrn : rn = r.length) (hl : vn ≤ 100) (hl2 : rn ≤ 100) (hV : Has w V (fc xs)) (hR : Has w R (fl r)) (hRn : R = none → rc = 0) (k : Option Nat) (hfi : findI xs col = k) (hno : ¬ FitsL xs r) :
    Calls Tryd.prog 56 #[.agg #[.slice V vn vc, .int .i64 last], chg kind col nm ty v0 v1 v2 sep N, .slice R rn rc] w (RowNo w) := by
  obtain ⟨h0, hh0⟩ : ∃ x, w.heap.size = x := ⟨_, rfl⟩
  obtain ⟨w2, hw2⟩ : ∃ x : World, (w.alloc (.cells #[.slice V vn vc, .int .i64 last] 24)).alloc (.cells #[.int .i64 kind, .int .i64 col, .string nm, .int .i64 ty, .int .i64 v0, .int .i64 v1, .string v2, .int .u8 sep, .int .i64 N] 31) = x := ⟨_, rfl⟩
  have l2 : Later w w2 := hw2 ▸ (Later.new w _).alloc _
  have bs : Blk w2 h0 #[.slice V vn vc, .int .i64 last] 24 := hw2 ▸ (Blk.new w _ _ _ hh0.symm).later (Later.new _ _)
  have bc : Blk w2 (h0 + 1) #[.int .i64 kind, .int .i64 col, .string nm, .int .i64 ty, .int .i64 v0, .int .i64 v1, .string v2, .int .u8 sep, .int .i64 N] 31 := hw2 ▸ Blk.new _ _ _ _ (by simp; omega)
  have HB := Lib.hid (byID_any V vn vc last xs col w2 hvn (by omega) (hV.later l2))
  have HW2 := Lib.hid hw2
  have HS := Lib.hid hs
  have HL2 := Lib.hid l2
  have HV := Lib.hid hV
  have HR := Lib.hid hR
  have HVN := Lib.hid hvn
  have HRN := Lib.hid hrn
  have HBS := Lib.hid bs
  have HBC := Lib.hid bc
  have HNIL := Lib.hid hRn
  clear hs hvn hrn hV hR l2 hw2 hRn
  have HFI := Lib.hid hfi
  have HNO := Lib.hid hno
  clear hfi hno
  have a0 := bs.cell 0 _ rfl
  have a1 := bs.cell 1 _ rfl
  have d1 := bc.cell 1 _ rfl
  clear bs bc
  go_enter Tryd.func56, Tryd.ntmps56
  go_wp2_with fail
  rw [HW2.out]
  refine HB.out.mono ?_
  rintro e w3 ⟨rfl, l3⟩
  rw [HFI.out]
  have HL3 := Lib.hid (HL2.out.trans l3)
  have HBS3 := Lib.hid (HBS.out.later l3)
  have HBC3 := Lib.hid (HBC.out.later l3)
  have HF := Lib.hid (schFits_any V R vn vc rn rc last xs r w3 (HS.out.later HL3.out) HVN.out HRN.out (by omega) (by omega) (HV.out.later HL3.out) (HR.out.later HL3.out))
  have a0 := HBS3.out.cell 0 _ rfl
  have a1 := HBS3.out.cell 1 _ rfl
  have d0 := HBC3.out.cell 0 _ rfl
  clear HB HW2 HBS HBC HL2 d1 l3
  go_wp2_with fail
  refine HF.out.mono ?_
  rintro e w4 ⟨q, hq, rfl, l4⟩
  have HQ := Lib.hid hq
  have HL4 := Lib.hid (HL3.out.trans l4)
  have HBC4 := Lib.hid (HBC3.out.later l4)
  clear HF HBS3 HBC3 HL3 a0 a1 d0 hq l4
  have d0 := HBC4.out.cell 0 _ rfl
  have hqf : q = false := by
    cases q with
    | false => rfl
    | true => exact absurd (HQ.out.1 rfl) HNO.out
  subst hqf
  go_wp2_with fail
  go_ret2
  exact ⟨rfl, HL4.out⟩

set_option maxRecDepth 100000 in
set_option maxHeartbeats 4000000 in
theorem row_add (V R : Option Addr) (vn vc rn rc : Nat) (last : Int) (xs : List Col3) (r : List Val3) ( col : Int) (nm : ByteArray) (ty v0 v1 : Int) (v2 : ByteArray) (sep : Nat) (N : Int) (w : World) (hs : S3 w) (hvn : vn = xs.length) (hrn : rn = r.length) (hl : vn ≤ 100) (hl2 : rn ≤ 100) (hV : Has w V (fc xs)) (hR : Has w R (fl r)) (hRn : R = none → rc = 0) (hfi : findI xs col = none) (hfit : FitsL xs r) (hr0 : 0 < rn) :
    Calls Tryd.prog 56 #[.agg #[.slice V vn vc, .int .i64 last], chg 1 col nm ty v0 v1 v2 sep N, .slice R rn rc] w (RowOk (r ++ [(v0, v1, v2)]) w) := by
  obtain ⟨h0, hh0⟩ : ∃ x, w.heap.size = x := ⟨_, rfl⟩
  obtain ⟨w2, hw2⟩ : ∃ x : World, (w.alloc (.cells #[.slice V vn vc, .int .i64 last] 24)).alloc (.cells #[.int .i64 1, .int .i64 col, .string nm, .int .i64 ty, .int .i64 v0, .int .i64 v1, .string v2, .int .u8 sep, .int .i64 N] 31) = x := ⟨_, rfl⟩
  have l2 : Later w w2 := hw2 ▸ (Later.new w _).alloc _
  have bs : Blk w2 h0 #[.slice V vn vc, .int .i64 last] 24 := hw2 ▸ (Blk.new w _ _ _ hh0.symm).later (Later.new _ _)
  have bc : Blk w2 (h0 + 1) #[.int .i64 1, .int .i64 col, .string nm, .int .i64 ty, .int .i64 v0, .int .i64 v1, .string v2, .int .u8 sep, .int .i64 N] 31 := hw2 ▸ Blk.new _ _ _ _ (by simp; omega)
  have HB := Lib.hid (byID_any V vn vc last xs col w2 hvn (by omega) (hV.later l2))
  have HW2 := Lib.hid hw2
  have HS := Lib.hid hs
  have HL2 := Lib.hid l2
  have HV := Lib.hid hV
  have HR := Lib.hid hR
  have HVN := Lib.hid hvn
  have HRN := Lib.hid hrn
  have HBS := Lib.hid bs
  have HBC := Lib.hid bc
  have HNIL := Lib.hid hRn
  clear hs hvn hrn hV hR l2 hw2 hRn
  have HFI := Lib.hid hfi
  have HFIT := Lib.hid hfit
  have HRK := Lib.hid (show rn = vn by have := hfit.1; have := HVN.out; have := HRN.out; omega)
  clear hfi hfit
  have HASK := Lib.hid (show asksK 1 = false from rfl)
  have a0 := bs.cell 0 _ rfl
  have a1 := bs.cell 1 _ rfl
  have d1 := bc.cell 1 _ rfl
  clear bs bc
  go_enter Tryd.func56, Tryd.ntmps56
  go_wp2_with fail
  rw [HW2.out]
  refine HB.out.mono ?_
  rintro e w3 ⟨rfl, l3⟩
  rw [HFI.out]
  have HL3 := Lib.hid (HL2.out.trans l3)
  have HBS3 := Lib.hid (HBS.out.later l3)
  have HBC3 := Lib.hid (HBC.out.later l3)
  have HF := Lib.hid (schFits_any V R vn vc rn rc last xs r w3 (HS.out.later HL3.out) HVN.out HRN.out (by omega) (by omega) (HV.out.later HL3.out) (HR.out.later HL3.out))
  have a0 := HBS3.out.cell 0 _ rfl
  have a1 := HBS3.out.cell 1 _ rfl
  have d0 := HBC3.out.cell 0 _ rfl
  clear HB HW2 HBS HBC HL2 d1 l3
  go_wp2_with fail
  refine HF.out.mono ?_
  rintro e w4 ⟨q, hq, rfl, l4⟩
  have HQ := Lib.hid hq
  have HL4 := Lib.hid (HL3.out.trans l4)
  have HBC4 := Lib.hid (HBC3.out.later l4)
  clear HF HBS3 HBC3 HL3 a0 a1 d0 hq l4
  have d0 := HBC4.out.cell 0 _ rfl
  have hqt : q = true := HQ.out.2 HFIT.out
  subst hqt
  have HC := Lib.hid (fun W (l : Later w4 W) => clone_any R rn rc r W HRN.out (by omega) (HR.out.later (HL4.out.trans l)) HNIL.out)
  go_wp2_with fail
  refine (asks_any 1 w4).mono ?_
  rintro e wq ⟨rfl, rfl⟩
  rw [HASK.out]
  go_wp2_with fail
  refine (HC.out w4 (Later.refl _)).mono ?_
  rintro e w5 ⟨A, c, rfl, o5, n5, l5⟩
  rw [← HRN.out] at o5 ⊢
  have HO5 := Lib.hid o5
  have HN5 := Lib.hid n5
  have HL5 := Lib.hid (HL4.out.trans l5)
  have HBC5 := Lib.hid (HBC4.out.later l5)
  have HS45 := Lib.hid l5.size
  obtain ⟨h5, hh5⟩ : ∃ x, w5.heap.size = x := ⟨_, rfl⟩
  obtain ⟨w6, hw6⟩ : ∃ x : World, (w5.alloc (.cells #[.int .i64 0, .int .i64 0, .string ⟨#[]⟩] 29)).alloc (.cells #[.int .i64 0, .int .i64 0, .string ⟨#[]⟩] 29) = x := ⟨_, rfl⟩
  have l6 : Later w5 w6 := hw6 ▸ (Later.new _ _).alloc _
  have HBC6 := Lib.hid (HBC5.out.later l6)
  have HL56 := Lib.hid l6
  have HW6 := Lib.hid hw6
  clear o5 n5 l5 HC HBC4 d0 l6 hw6
  have d0 := ((Later.new w5 (.cells #[.int .i64 0, .int .i64 0, .string ⟨#[]⟩] 29)).alloc (.cells #[.int .i64 0, .int .i64 0, .string ⟨#[]⟩] 29)).cell (HBC5.out.cell 0 _ rfl)
  have d4 := ((Later.new w5 (.cells #[.int .i64 0, .int .i64 0, .string ⟨#[]⟩] 29)).alloc (.cells #[.int .i64 0, .int .i64 0, .string ⟨#[]⟩] 29)).cell (HBC5.out.cell 4 _ rfl)
  have d5 := ((Later.new w5 (.cells #[.int .i64 0, .int .i64 0, .string ⟨#[]⟩] 29)).alloc (.cells #[.int .i64 0, .int .i64 0, .string ⟨#[]⟩] 29)).cell (HBC5.out.cell 5 _ rfl)
  have d6 := ((Later.new w5 (.cells #[.int .i64 0, .int .i64 0, .string ⟨#[]⟩] 29)).alloc (.cells #[.int .i64 0, .int .i64 0, .string ⟨#[]⟩] 29)).cell (HBC5.out.cell 6 _ rfl)
  obtain ⟨w7, hw7⟩ : ∃ x : World, w6.alloc (.cells #[.int .i64 v0, .int .i64 v1, .string v2] 29) = x := ⟨_, rfl⟩
  have HW67 := Lib.hid (show ((w5.alloc (.cells #[.int .i64 0, .int .i64 0, .string ⟨#[]⟩] 29)).alloc (.cells #[.int .i64 0, .int .i64 0, .string ⟨#[]⟩] 29)).alloc (.cells #[.int .i64 v0, .int .i64 v1, .string v2] 29) = w7 from by rw [HW6.out, hw7])
  have l7 : Later w6 w7 := hw7 ▸ Later.new _ _
  have hs6 : w6.heap.size = h5 + 2 := by rw [← HW6.out, ← hh5]; simp
  have HH7 := Lib.hid (show Has w7 (some ⟨h5 + 2, 0, none⟩) (encV (v0, v1, v2)) from (hw7 ▸ (Blk.new w6 [.int .i64 v0, .int .i64 v1, .string v2].toArray 29 (h5 + 2) hs6.symm).has))
  have HO7 := Lib.hid (own_later HO5.out (HL56.out.trans l7))
  have HL7 := Lib.hid (HL5.out.trans (HL56.out.trans l7))
  have HSZ := Lib.hid (show w4.heap.size ≤ w7.heap.size from by have h1 := HL56.out.size; have h2 := l7.size; have h3 : w4.heap.size ≤ w5.heap.size := HS45.out; omega)
  clear hw7 l7 hs6
  go_wp2_with (at_builtin; rw [HW67.out]; go_loud (refine wpList_append_g _ rfl (.tmp 49) (.tmp 52) 33 rfl w4.heap.size 29 _ 3 32 Tryd.underlying33 info_v rfl (by decide) _ rn (fl r) rfl HO7.out (some ⟨h5 + 2, 0, none⟩) 1 1 (encV (v0, v1, v2)) rfl HH7.out rfl (by intro h; cases h) (by simp [encV, Value.oneCell']) (by unfold maxLen; omega) (by omega) HSZ.out ?_; intro A2 c2 w8 o2 g2 b2 n2; rw [fl_snoc] at o2; have HO2 := Lib.hid o2; have HL8 := Lib.hid (show Later w w8 from Later.of (HL7.out.below.trans (b2.mono HL4.out.size))); have HN2 := Lib.hid n2; clear o2 g2 b2 n2))
  all_goals (try go_wp2_with fail)
  go_ret2
  have hol : (r ++ [(v0, v1, v2)]).length = rn + 1 := by rw [List.length_append, HRN.out]; rfl
  exact ⟨A2, c2, by rw [hol]; rfl, by rw [hol]; exact own_base HO2.out HL4.out.size, HN2.out, HL8.out⟩
end Go.Proofs.YtklohbglkbhjhaaDoor

/- The walk of change.Rows: the rows, one by one. -/

namespace Go.Proofs.YtklohbglkbhjhaaDoor
open Go.RowKit
set_option linter.unusedVariables false

/-- What Rows gives: a row for each. -/
def RowsW (out : List (List Val3)) (n : Nat) (w : World) (e : Ending) (w' : World) : Prop :=
  ∃ A c zs, e = .returned (.tuple #[.slice A n c, .bool true]) ∧ zs.map SlV.l = out ∧ RowsAt w' A zs ∧ Later w w'
/-- Where the loop stands. -/
def RwW (out : List (List Val3)) (n : Nat) (w : World) (cv iv : Value) (wr : World) : Prop :=
  ∃ (k m : Nat) (A : Option Addr) (c : Nat) (zs : List SlV), cv = .slice A m c ∧ m = k ∧ iv = .int .i64 k ∧ k ≤ n ∧ RowsOn w.heap.size wr A m c zs ∧ zs.map SlV.l = out.take k ∧ Later w wr
theorem RwW.mk {out : List (List Val3)} {n : Nat} {w wr : World} (y : Int) (k m : Nat) (A : Option Addr) (c : Nat) (zs : List SlV) (hm : m = k) (hy : y = (k : Int)) (hk : k ≤ n) (ho : RowsOn w.heap.size wr A m c zs) (hz : zs.map SlV.l = out.take k) (l : Later w wr) : RwW out n w (.slice A m c) (.int .i64 y) wr := by
  subst hy; exact ⟨k, m, A, c, zs, rfl, hm, rfl, hk, ho, hz, l⟩

set_option maxRecDepth 100000 in
set_option maxHeartbeats 4000000 in
theorem chRows_all (V L : Option Addr) (vn vc n lc : Nat) (last kind col : Int) (nm : ByteArray) (ty v0 v1 : Int) (v2 : ByteArray) (sep : Nat) (N : Int) (ss : List SlV) (out : List (List Val3)) (w : World) (hn : n = ss.length) (ho : n = out.length) (hl : n ≤ 1000) (hr : RowsAt w L ss)
    (hrow : ∀ i (h : i < ss.length) (h' : i < out.length) W, Later w W → Calls Tryd.prog 56 #[.agg #[.slice V vn vc, .int .i64 last], chg kind col nm ty v0 v1 v2 sep N, .slice ss[i].a ss[i].l.length ss[i].c] W (RowOk out[i] W)) :
    Calls Tryd.prog 34 #[.agg #[.slice V vn vc, .int .i64 last], chg kind col nm ty v0 v1 v2 sep N, .slice L n lc] w (RowsW out n w) := by
  obtain ⟨h0, hh0⟩ : ∃ x, w.heap.size = x := ⟨_, rfl⟩
  obtain ⟨w2, hw2⟩ : ∃ x : World, (w.alloc (.cells #[.slice V vn vc, .int .i64 last] 24)).alloc (.cells #[.int .i64 kind, .int .i64 col, .string nm, .int .i64 ty, .int .i64 v0, .int .i64 v1, .string v2, .int .u8 sep, .int .i64 N] 31) = x := ⟨_, rfl⟩
  have l2 : Later w w2 := hw2 ▸ (Later.new w _).alloc _
  have bs : Blk w2 h0 #[.slice V vn vc, .int .i64 last] 24 := hw2 ▸ (Blk.new w _ _ _ hh0.symm).later (Later.new _ _)
  have bc : Blk w2 (h0 + 1) #[.int .i64 kind, .int .i64 col, .string nm, .int .i64 ty, .int .i64 v0, .int .i64 v1, .string v2, .int .u8 sep, .int .i64 N] 31 := hw2 ▸ Blk.new _ _ _ _ (by simp; omega)
  have HW2 := Lib.hid hw2
  have HBS := Lib.hid bs
  have HBC := Lib.hid bc
  have HR := Lib.hid hr
  have HN := Lib.hid hn
  have HO_ := Lib.hid ho
  have HROW := Lib.hid hrow
  have HI0 := Lib.hid (RwW.mk (out := out) (n := n) (w := w2) (wr := w2) 0 0 0 none 0 [] rfl rfl (Nat.zero_le _) (RowsOn.nil_ _ _) rfl (Later.refl _))
  have HL2 := Lib.hid l2
  clear hw2 l2 bs bc hr hn hrow ho
  go_enter Tryd.func34, Tryd.ntmps34
  go_wp2_with fail
  rw [HW2.out]
  go_loopw [8, 15] (fun cv iv wr => RwW out n w2 cv iv wr) (fun _ i _ => n - (intOf i).toNat)
  case atStart => exact HI0.out
  case round =>
    obtain ⟨k, m, A, c, zs, rfl, rfl, rfl, hk, hon, hz, lat2⟩ := hrel
    have lat := HL2.out.trans lat2
    have HON := Lib.hid hon
    have HZ := Lib.hid hz
    have HLAT := Lib.hid lat
    have HLAT2 := Lib.hid lat2
    by_cases hlt : m < n
    · have hks : m < ss.length := by have := HN.out; omega
      have hko : m < out.length := by have := HO_.out; omega
      obtain ⟨rb, ro, hA, cr, _⟩ := (HR.out.later lat).get m hks
      subst hA
      have bs := HBS.out.later lat2
      have bc := HBC.out.later lat2
      have a0 := bs.cell 0 _ rfl
      have a1 := bs.cell 1 _ rfl
      have d0 := bc.cell 0 _ rfl
      have d1 := bc.cell 1 _ rfl
      have d2 := bc.cell 2 _ rfl
      have d3 := bc.cell 3 _ rfl
      have d4 := bc.cell 4 _ rfl
      have d5 := bc.cell 5 _ rfl
      have d6 := bc.cell 6 _ rfl
      have d7 := bc.cell 7 _ rfl
      have d8 := bc.cell 8 _ rfl
      have HC := Lib.hid (HROW.out m hks hko wr lat)
      generalize ss[m].a = ra at cr HC
      generalize ss[m].c = rc at cr HC
      generalize ss[m].l.length = rl at cr HC
      have HZS := Lib.hid (show out.take m ++ [out[m]] = out.take (m + 1) from (List.take_append_getElem hko))
      generalize out[m] = row at HC HZS
      have hmi : (m : Int) < (n : Int) := by omega
      clear bs bc lat lat2 hon hz HI0
      go_wp2_with fail
      refine HC.out.mono ?_
      rintro e w3 ⟨A3, c3, rfl, ho, hnn, l3⟩
      have HL3b := Lib.hid (HLAT2.out.trans l3)
      have hon2 := HON.out.later l3
      have HOKR := Lib.hid (show (⟨A3, c3, row⟩ : SlV).okX (Value.slice A m c).ownBlock w3 from SlV.okX.own ho rfl hnn fun q hq => (HON.out.2.1.lt q hq).2)
      have HOA := Lib.hid (fun (o : Obj) => hon2.later (Later.new w3 o))
      have HOKA := Lib.hid (fun (o : Obj) => HOKR.out.later (Later.new w3 o))
      have HSZ := Lib.hid (show w2.heap.size ≤ w3.heap.size from HL3b.out.size)
      obtain ⟨rn, hrnn⟩ : ∃ x, row.length = x := ⟨_, rfl⟩
      have HRL := Lib.hid (show (⟨A3, c3, row⟩ : SlV).v = .slice A3 rn c3 by rw [SlV.v_eq, ← hrnn])
      have HBK := Lib.hid (fun (wz : World) => Blk.new wz #[.slice A3 rn c3] 33 wz.heap.size rfl)
      rw [hrnn]
      clear l3 HC a0 a1 d0 d1 d2 d3 d4 d5 d6 d7 d8 cr hon2 ho hnn hrnn
      go_wp2_with (at_builtin; go_loud (refine wpList_append_x _ rfl (.tmp 28) (.tmp 30) 65 rfl w2.heap.size 33 _ 1 24 Tryd.underlying65 info_row rfl (by decide) _ m _ rfl (HOA.out _).2.1 _ 0 1 1 [.slice A3 rn c3] rfl (HBK.out w3).has rfl (by intro u hu; rw [List.mem_singleton] at hu; subst hu; rfl) (by unfold maxLen; omega) (by omega) (by have := HSZ.out; simp; omega) ?_; rintro A' c' wq hO hgr hbel hat hn2; have HO2 := Lib.hid (RowsOn.more (s := ⟨A3, c3, row⟩) (HOA.out _) (HOKA.out _) (by rw [HRL.out]; exact hO) hgr hat hn2); have HL4 := Lib.hid (show Later w2 wq from Later.of ((HL3b.out.alloc _).below.trans hbel)); clear hO hn2 hbel hgr hat))
      go_roundw
      all_goals first
        | exact RwW.mk _ (m + 1) _ _ _ _ (by omega) (by omega) hlt HO2.out (by rw [List.map_append, HZ.out]; exact HZS.out) HL4.out
        | (simp [intOf]; done)
        | (simp [intOf]; omega)
    · have hmn : m = n := by omega
      have HM := Lib.hid hmn
      clear hmn lat lat2 hon hz HI0
      go_wp2_with fail
      go_ret2
      have hm := HM.out
      subst hm
      exact ⟨A, c, zs, rfl, by rw [HZ.out, HO_.out, List.take_length], HON.out.at_.1, HLAT.out⟩
end Go.Proofs.YtklohbglkbhjhaaDoor
