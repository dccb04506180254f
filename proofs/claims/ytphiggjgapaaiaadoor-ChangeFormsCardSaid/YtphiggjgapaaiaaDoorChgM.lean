/- The arm of change.Row that splits in the middle. (tools/gen_chgR.py) -/
import Derived.Test.YtphiggjgapaaiaaDoorChgR
import Derived.Test.YtphiggjgapaaiaaDoorChgE
namespace Go.Proofs.YtphiggjgapaaiaaDoor
open Go.RowKit
set_option linter.unusedVariables false

set_option maxRecDepth 100000 in
set_option maxHeartbeats 4000000 in
theorem row_split_mid (V R : Option Addr) (vn vc rn rc : Nat) (last : Int) (xs : List Col3) (r : List Val3) ( col : Int) (nm : ByteArray) (ty v0 v1 : Int) (v2 : ByteArray) (sep : Nat) (N : Int) (w : World) (hs : S3 w) (hvn : vn = xs.length) (hrn : rn = r.length) (hl : vn ≤ 100) (hl2 : rn ≤ 100) (hV : Has w V (fc xs)) (hR : Has w R (fl r)) (hRn : R = none → rc = 0) (k : Nat) (hfi : findI xs col = some k) (hfit : FitsL xs r) (x : Val3) (hrx : r[k]? = some x) (hxs : x.2.2.size ≤ 1000) (p : Val3 × Val3) (hp : cutV x sep = p) (hk1 : k + 1 < rn) (hsep : sep < 256) (out : List Val3) (hout : (insL r (k + 1) p.2).set k (wideT p.1.1, p.1.2) = out) :
    Calls Tryd.prog 8 #[.agg #[.slice V vn vc, .int .i64 last], chg 5 col nm ty v0 v1 v2 sep N, .slice R rn rc] w (RowOk out w) := by
  obtain ⟨h0, hh0⟩ : ∃ x, w.heap.size = x := ⟨_, rfl⟩
  obtain ⟨w2, hw2⟩ : ∃ x : World, (w.alloc (.cells #[.slice V vn vc, .int .i64 last] 27)).alloc (.cells #[.int .i64 5, .int .i64 col, .string nm, .int .i64 ty, .int .i64 v0, .int .i64 v1, .string v2, .int .u8 sep, .int .i64 N] 35) = x := ⟨_, rfl⟩
  have l2 : Later w w2 := hw2 ▸ (Later.new w _).alloc _
  have bs : Blk w2 h0 #[.slice V vn vc, .int .i64 last] 27 := hw2 ▸ (Blk.new w _ _ _ hh0.symm).later (Later.new _ _)
  have bc : Blk w2 (h0 + 1) #[.int .i64 5, .int .i64 col, .string nm, .int .i64 ty, .int .i64 v0, .int .i64 v1, .string v2, .int .u8 sep, .int .i64 N] 35 := hw2 ▸ Blk.new _ _ _ _ (by simp; omega)
  have HB := Lib.hid (byID_any V vn vc last xs col w2 hvn (by omega) (hV.later l2))
  have HW2 := Lib.hid hw2
  have HS := Lib.hid hs
  have HL2 := Lib.hid l2
  have HV := Lib.hid hV
  have HR := Lib.hid hR
  have HVN := Lib.hid hvn
  have HRN := Lib.hid hrn
  have HBS := Lib.hid bs
  have HBC := Lib.hid bc
  have HNIL := Lib.hid hRn
  clear hs hvn hrn hV hR l2 hw2 hRn
  have HFI := Lib.hid hfi
  have HFIT := Lib.hid hfit
  have hkx : k < vn := by have := findI_lt hfi; have := HVN.out; omega
  have HRK := Lib.hid (show rn = vn by have := hfit.1; have := HVN.out; have := HRN.out; omega)
  have hkr : k < r.length := by have := HRK.out; have := HRN.out; omega
  clear hfi hfit
  have HOUT := Lib.hid hout
  have HRX := Lib.hid (show r[k] = x from by rw [List.getElem?_eq_getElem hkr] at hrx; injection hrx)
  have HCUT := Lib.hid (fun W => hp ▸ cut_any x.1 x.2.1 x.2.2 sep W hsep hxs)
  clear hout hrx hp
  obtain ⟨x0, x1, x2⟩ := x
  have a0 := bs.cell 0 _ rfl
  have a1 := bs.cell 1 _ rfl
  have d1 := bc.cell 1 _ rfl
  clear bs bc
  go_enter Tryd.func8, Tryd.ntmps8
  go_wp2_with fail
  rw [HW2.out]
  refine HB.out.mono ?_
  rintro e w3 ⟨rfl, l3⟩
  rw [HFI.out]
  have HL3 := Lib.hid (HL2.out.trans l3)
  have HBS3 := Lib.hid (HBS.out.later l3)
  have HBC3 := Lib.hid (HBC.out.later l3)
  have HF := Lib.hid (schFits_any V R vn vc rn rc last xs r w3 (HS.out.later HL3.out) HVN.out HRN.out (by omega) (by omega) (HV.out.later HL3.out) (HR.out.later HL3.out))
  have a0 := HBS3.out.cell 0 _ rfl
  have a1 := HBS3.out.cell 1 _ rfl
  have d0 := HBC3.out.cell 0 _ rfl
  clear HB HW2 HBS HBC HL2 d1 l3
  go_wp2_with fail
  refine HF.out.mono ?_
  rintro e w4 ⟨q, hq, rfl, l4⟩
  have HQ := Lib.hid hq
  have HL4 := Lib.hid (HL3.out.trans l4)
  have HBC4 := Lib.hid (HBC3.out.later l4)
  clear HF HBS3 HBC3 HL3 a0 a1 d0 hq l4
  have d0 := HBC4.out.cell 0 _ rfl
  have hqt : q = true := HQ.out.2 HFIT.out
  subst hqt
  have HC := Lib.hid (fun W (l : Later w4 W) => clone_any R rn rc r W HRN.out (by omega) (HR.out.later (HL4.out.trans l)) HNIL.out)
  have hkn : (k : Int) < (rn : Int) := by have := HRK.out; omega
  go_wp2_with fail
  refine (HC.out w4 (Later.refl _)).mono ?_
  rintro e w5 ⟨A, c, rfl, o5, n5, l5⟩
  rw [← HRN.out] at o5 ⊢
  obtain ⟨g, rfl⟩ := own_some o5 (by omega)
  have HO5 := Lib.hid o5
  have HL5 := Lib.hid (HL4.out.trans l5)
  have HBC5 := Lib.hid (HBC4.out.later l5)
  have hx := (fl_get r k hkr)
  have e0 := o5.cellAt (k * 3) (by omega)
  have e1 := o5.cellAt (k * 3 + 1) (by omega)
  have e2 := o5.cellAt (k * 3 + 2) (by omega)
  rw [hx.1] at e0
  rw [hx.2.1] at e1
  rw [hx.2.2] at e2
  rw [HRX.out] at e0 e1 e2
  have HGL := Lib.hid (o5.lt g rfl)
  dsimp only at e0 e1 e2
  have lz : Later w5 ((w5.alloc (.cells #[.int .i64 0, .int .i64 0, .string ⟨#[]⟩] 29)).alloc (.cells #[.int .i64 0, .int .i64 0, .string ⟨#[]⟩] 29)) := (Later.new _ _).alloc _
  have e0 := lz.cell e0
  have e1 := lz.cell e1
  have e2 := lz.cell e2
  obtain ⟨h5, hh5⟩ : ∃ x, w5.heap.size = x := ⟨_, rfl⟩
  obtain ⟨w6, hw6⟩ : ∃ x : World, (w5.alloc (.cells #[.int .i64 x0, .int .i64 x1, .string x2] 29)).alloc (.cells #[.int .i64 0, .int .i64 0, .string ⟨#[]⟩] 29) = x := ⟨_, rfl⟩
  have l6 : Later w5 w6 := hw6 ▸ (Later.new _ _).alloc _
  have b6 : Blk w6 h5 #[.int .i64 x0, .int .i64 x1, .string x2] 29 := hw6 ▸ (Blk.new w5 _ _ _ hh5.symm).later (Later.new _ _)
  have t6 : Blk w6 (h5 + 1) #[.int .i64 0, .int .i64 0, .string ⟨#[]⟩] 29 := hw6 ▸ Blk.new _ _ _ _ (by simp; omega)
  have HB6 := Lib.hid b6
  have HT6 := Lib.hid t6
  have HBC6 := Lib.hid (HBC5.out.later l6)
  have HL56 := Lib.hid l6
  have HW6 := Lib.hid hw6
  have HS5 := Lib.hid (show h0 + 2 ≤ h5 from by have h1 := block_lt_of_cell (HBC5.out.cell 0 _ rfl); dsimp only at h1; omega)
  clear hx o5 n5 l5 HC HBC4 d0 lz l6 b6 t6 hw6
  have d0 := ((Later.new w5 (.cells #[.int .i64 x0, .int .i64 x1, .string x2] 29)).alloc (.cells #[.int .i64 0, .int .i64 0, .string ⟨#[]⟩] 29)).cell (HBC5.out.cell 0 _ rfl)
  have d7 := ((Later.new w5 (.cells #[.int .i64 x0, .int .i64 x1, .string x2] 29)).alloc (.cells #[.int .i64 0, .int .i64 0, .string ⟨#[]⟩] 29)).cell (HBC5.out.cell 7 _ rfl)
  have hwk : IntKind.i64.wrap ((k : Int) + 1) = (k : Int) + 1 := IntWalk.i64_in _ ⟨by omega, by omega⟩
  go_wp2_with fail
  rw [HW6.out]
  refine (HCUT.out w6).mono ?_
  rintro e w7 ⟨rfl, l7⟩
  obtain ⟨⟨p0, p1, p2⟩, ⟨q0, q1, q2⟩⟩ := p
  dsimp only at HOUT ⊢
  have b7 := HB6.out.later l7
  have t7 := HT6.out.later l7
  have z0 := b7.cell 0 _ rfl
  have z1 := b7.cell 1 _ rfl
  have z2 := b7.cell 2 _ rfl
  have f0 := b7.frozen 0
  have f1 := b7.frozen 1
  have f2 := b7.frozen 2
  have b8 := three_blk b7 rfl (.int .i64 p0) (.int .i64 p1) (.string p2)
  have t8 := ((t7.far (p := ⟨h5, 0, none⟩) (by show h5 + 1 ≠ h5; omega) (.int .i64 p0)).far (p := ⟨h5, 1, none⟩) (by show h5 + 1 ≠ h5; omega) (.int .i64 p1)).far (p := ⟨h5, 2, none⟩) (by show h5 + 1 ≠ h5; omega) (.string p2)
  have y0 := t8.cell 0 _ rfl
  have y1 := t8.cell 1 _ rfl
  have y2 := t8.cell 2 _ rfl
  have k0 := t8.frozen 0
  have k1 := t8.frozen 1
  have k2 := t8.frozen 2
  have t9 := three_blk t8 rfl (.int .i64 q0) (.int .i64 q1) (.string q2)
  have b9 := ((b8.far (p := ⟨h5 + 1, 0, none⟩) (by show h5 ≠ h5 + 1; omega) (.int .i64 q0)).far (p := ⟨h5 + 1, 1, none⟩) (by show h5 ≠ h5 + 1; omega) (.int .i64 q1)).far (p := ⟨h5 + 1, 2, none⟩) (by show h5 ≠ h5 + 1; omega) (.string q2)
  have u0 := t9.cell 0 _ rfl
  have u1 := t9.cell 1 _ rfl
  have u2 := t9.cell 2 _ rfl
  have L59 := Lib.hid (three_later (three_later (HL56.out.trans l7) (g := h5) (by omega) (.int .i64 p0) (.int .i64 p1) (.string p2)) (g := h5 + 1) (by omega) (.int .i64 q0) (.int .i64 q1) (.string q2))
  have B9 := Lib.hid b9
  clear HCUT HB6 HT6 HBC5 HBC6 HW6 HL56 d0 d7 e0 e1 e2 l7 b7 t7 b8 t8 t9 b9
  go_wp2_with fail
  obtain ⟨w9, hw9⟩ : ∃ x : World, ((((((w7).setCell ⟨h5, 0, none⟩ (.int .i64 p0)).setCell ⟨h5, 1, none⟩ (.int .i64 p1)).setCell ⟨h5, 2, none⟩ (.string p2)).setCell ⟨h5 + 1, 0, none⟩ (.int .i64 q0)).setCell ⟨h5 + 1, 1, none⟩ (.int .i64 q1)).setCell ⟨h5 + 1, 2, none⟩ (.string q2) = x := ⟨_, rfl⟩
  obtain ⟨h7, hh7⟩ : ∃ x, w7.heap.size = x := ⟨_, rfl⟩
  have hs9 : w9.heap.size = h7 := by rw [← hw9, ← hh7]; simp [World.setCell]
  rw [hw9] at B9 L59 ⊢
  rw [hh7]
  obtain ⟨w10, hw10⟩ : ∃ x : World, w9.alloc (.cells #[.int .i64 q0, .int .i64 q1, .string q2] 29) = x := ⟨_, rfl⟩
  have l10 : Later w9 w10 := hw10 ▸ Later.new w9 _
  have h10 : Blk w10 h7 (encV (q0, q1, q2)).toArray 29 := hw10 ▸ Blk.new w9 _ _ h7 hs9.symm
  have hh57 : g < h7 := by have h1 := L59.out.size; have h2 := HGL.out.2; omega
  rw [hw10]
  have HL10 := Lib.hid (L59.out.trans l10)
  have HB10 := Lib.hid (B9.out.later l10)
  have HI := Lib.hid (insert_mid w4.heap.size g rn c (k + 1) h7 1 ((k : Int) + 1) r (q0, q1, q2) w10 (own_later HO5.out HL10.out) HRN.out (by omega) hk1 (by omega) h10 (by omega) (Nat.le_trans (Nat.le_trans HGL.out.1 (Nat.le_of_lt HGL.out.2)) HL10.out.size))
  clear hw9 hs9 hh7 hw10 l10 h10 B9 L59 z0 z1 z2 f0 f1 f2 y0 y1 y2 k0 k1 k2 u0 u1 u2
  refine HI.out.mono ?_
  rintro e w11 ⟨g2, c2, rfl, o11, g11⟩
  have hgh : g < h5 := by have := HGL.out.2; omega
  have hl1 : (insL r (k + 1) (q0, q1, q2)).length = rn + 1 := by rw [insL_len, HRN.out]
  rw [hl1] at o11 ⊢
  have b11 : Blk w11 h5 #[.int .i64 p0, .int .i64 p1, .string p2] 29 := (g11.block h5 HB10.out.lt (by intro e; injection e with e; omega)).trans HB10.out
  have HO11 := Lib.hid o11
  have HL11 := Lib.hid (show Later w w11 from Later.of ((HL5.out.trans HL10.out).below.grown g11 (HL5.out.trans HL10.out).size fun q hq => by injection hq with hq; have h1 := HGL.out.1; have h2 := HL4.out.size; omega))
  have m0 := b11.cell 0 _ rfl
  have m1 := b11.cell 1 _ rfl
  have m2 := b11.cell 2 _ rfl
  have HWD := Lib.hid (wider_any p0 p1 p2 w11)
  have hk2 : (k : Int) < (rn : Int) + 1 := by omega
  clear HI o11 g11 b11
  go_wp2_with fail
  refine HWD.out.mono ?_
  rintro e w12 ⟨rfl, l12⟩
  have o12 := own_later HO11.out l12
  have hkl : k < (insL r (k + 1) (q0, q1, q2)).length := by rw [hl1]; omega
  have hx2 := fl_get (insL r (k + 1) (q0, q1, q2)) k hkl
  have n0 := o12.cellAt (k * 3) (by omega)
  have n1 := o12.cellAt (k * 3 + 1) (by omega)
  have n2 := o12.cellAt (k * 3 + 2) (by omega)
  rw [hx2.1] at n0
  rw [hx2.2.1] at n1
  rw [hx2.2.2] at n2
  have r0 := o12.frozenAt (k * 3)
  have r1 := o12.frozenAt (k * 3 + 1)
  have r2 := o12.frozenAt (k * 3 + 2)
  obtain ⟨oz, gz⟩ := own_setCells (size := 3) (encV (wideT p0, p1, p2)) (k * 3) _ _ o12
  rw [fl_set _ k hkl] at oz
  have HOZ := Lib.hid oz
  have HLZ := Lib.hid (show Later w (w12.setCells g2 (k * 3) (encV (wideT p0, p1, p2))) from Later.of ((HL11.out.trans l12).below.grown gz (HL11.out.trans l12).size fun q hq => by injection hq with hq; have h1 := (HO11.out.lt g2 rfl).1; have h2 := HL4.out.size; omega))
  simp only [encV, World.setCells, Nat.add_assoc, Nat.reduceAdd] at HOZ HLZ
  clear o12 hx2 oz gz l12
  go_wp2_with fail
  go_ret2
  rw [HOUT.out] at HOZ
  have hol : out.length = rn + 1 := by rw [← HOUT.out, List.length_set, hl1]
  refine ⟨some ⟨g2, 0, none⟩, c2, ?_, ?_, (fun h => by cases h), HLZ.out⟩
  · rw [hol]; rfl
  · rw [hol]; exact own_base HOZ.out HL4.out.size
end Go.Proofs.YtphiggjgapaaiaaDoor
