/- begun of layer 12. -/
import Derived.Test.YtlfmmhbaphnifaaRRRRGreatDoorBatC
import Derived.Test.YtlfmmhbaphnifaaRRRRGreatDoorPick
import Derived.Test.YtlfmmhbaphnifaaRRRRGreatDoorSets
import Derived.Test.YtlfmmhbaphnifaaRRRRGreatDoorBag
namespace Go.Proofs.YtlfmmhbaphnifaaRRRRGreatDoor
open Go.RowKit
set_option linter.unusedVariables false

abbrev noB : ByteArray := ⟨#[]⟩
abbrev vI (i : Int) : Val3 := (2, i, noB)
theorem rowsAt_one {w : World} {g : Nat} {s : SlV} (h : Blk w g #[s.v] 27) (hs : s.okX none w) : RowsAt w (some ⟨g, 0, none⟩) [s] := ⟨Blk.has (cs := [s.v]) h, fun x hx => by rw [List.mem_singleton] at hx; subst hx; exact hs⟩
theorem rowsAt_two {w : World} {g : Nat} {s t : SlV} {T : TypeId} (h : Blk w g #[s.v, t.v] T) (hs : s.okX none w) (ht : t.okX none w) : RowsAt w (some ⟨g, 0, none⟩) [s, t] := ⟨Blk.has (cs := [s.v, t.v]) h, fun x hx => by
  rcases List.mem_cons.1 hx with rfl | hx
  · exact hs
  · rw [List.mem_singleton] at hx; subst hx; exact ht⟩
theorem okX_blk {w : World} {g : Nat} {l : List Val3} {n : Nat} (hn : n = l.length) (hl : n ≤ 1000) (h : Blk w g (fl l).toArray 55) : (⟨some ⟨g, 0, none⟩, n, l⟩ : SlV).okX none w := ⟨HasX.of (Blk.has h), by show l.length ≤ n; omega, by show n ≤ _; omega, fun h => by cases h⟩

set_option maxRecDepth 100000 in
set_option maxHeartbeats 4000000 in
theorem begun12_any (w : World) (hs : S12 w) : Calls Tryz.prog 7 #[] w fun e w' => e = .returned (.bool true) ∧ Later w w' := by
  obtain ⟨g0, hg0⟩ : ∃ x, w.heap.size = x := ⟨_, rfl⟩
  obtain ⟨w1, hw1⟩ : ∃ x : World, w.alloc (.cells #[.int .i64 2, .int .i64 1, .string noB] 55) = x := ⟨_, rfl⟩
  obtain ⟨g1, hg1⟩ : ∃ x, w1.heap.size = x := ⟨_, rfl⟩
  obtain ⟨w2, hw2⟩ : ∃ x : World, w1.alloc (.cells #[.int .i64 2, .int .i64 2, .string noB] 55) = x := ⟨_, rfl⟩
  obtain ⟨g2, hg2⟩ : ∃ x, w2.heap.size = x := ⟨_, rfl⟩
  obtain ⟨w3, hw3⟩ : ∃ x : World, w2.alloc (.cells #[.slice (some ⟨g0, 0, none⟩) 1 1, .slice (some ⟨g1, 0, none⟩) 1 1] 27) = x := ⟨_, rfl⟩
  have B0 : Blk w1 g0 (fl [vI 1]).toArray 55 := hw1 ▸ Blk.new _ _ _ _ hg0.symm
  have B1 : Blk w2 g1 (fl [vI 2]).toArray 55 := hw2 ▸ Blk.new _ _ _ _ hg1.symm
  have l12 : Later w1 w2 := hw2 ▸ Later.new _ _
  have l23 : Later w2 w3 := hw3 ▸ Later.new _ _
  have B2 : Blk w3 g2 #[(⟨some ⟨g0, 0, none⟩, 1, [vI 1]⟩ : SlV).v, (⟨some ⟨g1, 0, none⟩, 1, [vI 2]⟩ : SlV).v] 27 := hw3 ▸ Blk.new _ _ _ _ hg2.symm
  have HOK0 := Lib.hid (okX_blk (n := 1) rfl (by omega) (B0.later (l12.trans l23)))
  have HOK1 := Lib.hid (okX_blk (n := 1) rfl (by omega) (B1.later l23))
  have HR3 := Lib.hid (rowsAt_two B2 HOK0.out HOK1.out)
  have HB2 := Lib.hid B2
  have HL3 := Lib.hid (show Later w w3 from (hw1 ▸ Later.new _ _ : Later w w1).trans (l12.trans l23))
  have HC := Lib.hid ((columns_any (some ⟨g2, 0, none⟩) 2 2 _ 1 w3 (hs.later HL3.out) rfl (by omega) HR3.out))
  clear B0 B1 B2 l12 l23
  go_enter Tryz.func7, Tryz.ntmps7
  go_wp2_with fail
  refine HC.out.mono ?_
  intro e w4 h
  obtain ⟨gc, zs, he, hz, hzl, hzr, l4⟩ := h.yes ⟨⟨by omega, by omega⟩, fun r hr => by simp at hr; rcases hr with rfl | rfl <;> rfl⟩
  have hz1 : zs.length = 1 := by omega
  rw [hz1] at he hzl
  subst he
  have hcz : colsOf zs = [[vI 1, vI 2]] := hzl
  have hzlen : ∀ s ∈ zs, s.l.length ≤ 1000 := fun s hs => by
    have h1 : s.l ∈ colsOf zs := List.mem_map.2 ⟨s, hs, rfl⟩
    rw [hcz, List.mem_singleton] at h1
    rw [h1]; decide
  have HZR := Lib.hid hzr
  have HZ1 := Lib.hid hz1
  have HCZ := Lib.hid hcz
  have HZL := Lib.hid hzlen
  have HROW := Lib.hid (batchRows_any (some ⟨gc, 0, none⟩) 1 1 zs w4 hz1.symm (by omega) hzr hzlen)
  rw [hcz, show rowsC [[vI 1, vI 2]] = [[vI 1], [vI 2]] from rfl] at HROW
  have HL4 := Lib.hid l4
  clear h HC hz hzl hzr hz1 hcz hzlen l4 hw1 hw2 hw3 hg0 hg1 hg2
  go_wp2_with fail
  refine HROW.out.mono ?_
  rintro e w5 ⟨RA, rc, rs, he, hrs, hat, _, _, hrz, l5⟩
  have hr2 : rs.length = 2 := by have := congrArg List.length hrs; simpa using this
  rw [hr2] at he
  subst he
  have HRS := Lib.hid hrs
  have HAT := Lib.hid hat
  have HR2 := Lib.hid hr2
  have HRZ := Lib.hid hrz
  obtain ⟨g6, hg6⟩ : ∃ x, w5.heap.size = x := ⟨_, rfl⟩
  obtain ⟨w6, hw6⟩ : ∃ x : World, w5.alloc (.cells #[.int .i64 1] 3) = x := ⟨_, rfl⟩
  have bg6 : Has w6 (some ⟨g6, 0, none⟩) (zin [1]) := Blk.has (cs := zin [1]) (t := 3) (hw6 ▸ Blk.new _ _ _ _ hg6.symm)
  have lw6 : Later w5 w6 := hw6 ▸ Later.new _ _
  have HPK := Lib.hid (pick_any (some ⟨gc, 0, none⟩) (some ⟨g6, 0, none⟩) 1 1 1 1 zs [1] w6 HZ1.out.symm rfl (by omega) (by omega) (HZR.out.later (l5.trans lw6)) HZL.out bg6)
  rw [HCZ.out, show pickC [[vI 1, vI 2]] [1] = [[vI 2]] from rfl] at HPK
  have HL6 := Lib.hid (l5.trans lw6)
  have HL56 := Lib.hid lw6
  clear hrs hat hr2 hrz l5 bg6 lw6 HROW
  go_wp2_with fail
  refine HPK.out.mono ?_
  rintro e w7 ⟨PA, pc, ps, he, hps, hpat, _, _, _, l7, hpk8⟩
  clear hpk8
  have hp1 : ps.length = 1 := by have := congrArg List.length hps; simpa using this
  rw [hp1] at he
  subst he
  have HL7 := Lib.hid l7
  obtain ⟨pb, po, hPA, pk, ph, hrest⟩ := hpat.get 0 (by omega)
  have hpl : ps[0].l = [vI 2] := by
    have : (ps.map (·.l))[0]? = some [vI 2] := by rw [hps]; rfl
    rw [List.getElem?_map, List.getElem?_eq_getElem (by omega)] at this
    injection this
  rw [hpl] at pk ph
  obtain ⟨vb, vo, hva, v0, v1, v2⟩ := ph.val3 0 (by decide)
  rw [hva] at pk
  generalize ps[0].c = pcc at pk
  subst hPA
  have HPK0 := Lib.hid (show CellIs w7 _ _ from pk)
  have HPV := Lib.hid (show CellIs w7 _ _ from v1)
  clear hrest hpl hva ph hpat hps hp1 pk v0 v1 v2 HPK hw6 hg6
  obtain ⟨g8, hg8⟩ : ∃ x, w7.heap.size = x := ⟨_, rfl⟩
  obtain ⟨w8, hw8⟩ : ∃ x : World, w7.alloc (.cells #[.int .i64 1, .int .i64 2] 3) = x := ⟨_, rfl⟩
  have bg8 : Has w8 (some ⟨g8, 0, none⟩) (zin [1, 2]) := Blk.has (cs := zin [1, 2]) (t := 3) (hw8 ▸ Blk.new _ _ _ _ hg8.symm)
  have lw8 : Later w7 w8 := hw8 ▸ Later.new _ _
  obtain ⟨g9, hg9⟩ : ∃ x, w8.heap.size = x := ⟨_, rfl⟩
  obtain ⟨w9, hw9⟩ : ∃ x : World, w8.alloc (.cells #[.int .i64 2, .int .i64 3] 3) = x := ⟨_, rfl⟩
  have bg9 : Has w9 (some ⟨g9, 0, none⟩) (zin [2, 3]) := Blk.has (cs := zin [2, 3]) (t := 3) (hw9 ▸ Blk.new _ _ _ _ hg9.symm)
  have lw9 : Later w8 w9 := hw9 ▸ Later.new _ _
  have l79 : Later w7 w9 := lw8.trans lw9
  have HM := Lib.hid (meet_any (some ⟨g8, 0, none⟩) (some ⟨g9, 0, none⟩) 2 2 2 2 [1, 2] [2, 3] w9 rfl rfl (by omega) (bg8.later lw9) bg9)
  rw [show meetL [1, 2] [2, 3] = [2] from (meetR_eq (by decide)).trans (by decide)] at HM
  have HL79 := Lib.hid l79
  clear bg8 bg9 lw8 lw9 l79 l7
  go_wp2_with fail
  refine HM.out.mono ?_
  rintro e w10 ⟨MA, mc, rfl, hm, _, _, _, l10⟩
  obtain ⟨mb, mo, hMA, m0⟩ := hm.zat 0 (by decide)
  subst hMA
  have HM0 := Lib.hid (show CellIs w10 _ _ from m0)
  have HL10 := Lib.hid (HL79.out.trans l10)
  clear hm m0 l10 HM hw8 hg8 hw9 hg9
  obtain ⟨g11, hg11⟩ : ∃ x, w10.heap.size = x := ⟨_, rfl⟩
  obtain ⟨w11, hw11⟩ : ∃ x : World, w10.alloc (.cells #[.int .i64 1, .int .i64 2] 3) = x := ⟨_, rfl⟩
  have bg11 : Has w11 (some ⟨g11, 0, none⟩) (zin [1, 2]) := Blk.has (cs := zin [1, 2]) (t := 3) (hw11 ▸ Blk.new _ _ _ _ hg11.symm)
  have lw11 : Later w10 w11 := hw11 ▸ Later.new _ _
  obtain ⟨g12, hg12⟩ : ∃ x, w11.heap.size = x := ⟨_, rfl⟩
  obtain ⟨w12, hw12⟩ : ∃ x : World, w11.alloc (.cells #[.int .i64 2, .int .i64 3] 3) = x := ⟨_, rfl⟩
  have bg12 : Has w12 (some ⟨g12, 0, none⟩) (zin [2, 3]) := Blk.has (cs := zin [2, 3]) (t := 3) (hw12 ▸ Blk.new _ _ _ _ hg12.symm)
  have lw12 : Later w11 w12 := hw12 ▸ Later.new _ _
  have HJ := Lib.hid (join_any (some ⟨g11, 0, none⟩) (some ⟨g12, 0, none⟩) 2 2 2 2 [1, 2] [2, 3] w12 rfl rfl (by omega) (bg11.later lw12) bg12 (fun h => by cases h) (fun h => by cases h))
  rw [show joinL [1, 2] [2, 3] = [1, 2, 3] from (joinR_eq (by decide) (by decide)).trans (by decide)] at HJ
  have HL12 := Lib.hid (lw11.trans lw12)
  clear bg11 bg12 lw11 lw12
  go_wp2_with fail
  refine HJ.out.mono ?_
  rintro e w13 ⟨JA, jc, rfl, _, _, _, _, l13⟩
  have HL13 := Lib.hid (HL12.out.trans l13)
  clear l13 HJ hw11 hg11 hw12 hg12
  obtain ⟨g14, hg14⟩ : ∃ x, w13.heap.size = x := ⟨_, rfl⟩
  obtain ⟨w14, hw14⟩ : ∃ x : World, w13.alloc (.cells #[.int .i64 1] 3) = x := ⟨_, rfl⟩
  have bg14 : Has w14 (some ⟨g14, 0, none⟩) (zin [1]) := Blk.has (cs := zin [1]) (t := 3) (hw14 ▸ Blk.new _ _ _ _ hg14.symm)
  have lw14 : Later w13 w14 := hw14 ▸ Later.new _ _
  have HS := Lib.hid (rest_any (some ⟨g14, 0, none⟩) 1 1 3 [1] w14 rfl (by omega) bg14)
  rw [show restL [1] 3 = [0, 2] from (restR_eq _ _).trans (by decide)] at HS
  have HL14 := Lib.hid lw14
  clear bg14 lw14
  go_wp2_with fail
  refine HS.out.mono ?_
  rintro e w15 ⟨SA, sc, rfl, _, _, _, _, l15⟩
  have LW := Lib.hid (HL13.out.trans (HL14.out.trans l15))
  have LX := Lib.hid (HL10.out.trans LW.out)
  have LY := Lib.hid (HL6.out.trans (HL7.out.trans LX.out))
  have LZ := Lib.hid (HL4.out.trans LY.out)
  obtain ⟨cb, co, hcA, ck, hrest⟩ := (HZR.out.later LY.out).get 0 (by have := HZ1.out; omega)
  clear hrest
  injection hcA with hcA
  injection hcA with e1 e2
  subst e1 e2
  have hcl : (zs[0]'(by have := HZ1.out; omega)).l = [vI 1, vI 2] := by
    have h1 : (colsOf zs)[0]? = some [vI 1, vI 2] := by rw [HCZ.out]; rfl
    unfold colsOf at h1
    rw [List.getElem?_map, List.getElem?_eq_getElem (by have := HZ1.out; omega)] at h1
    injection h1
  rw [hcl] at ck
  generalize (zs[0]'(by have := HZ1.out; omega)).a = ca at ck
  generalize (zs[0]'(by have := HZ1.out; omega)).c = cc at ck
  have pk := (HPK0.out.later LX.out).out
  have pv := (HPV.out.later LX.out).out
  have m0 := (HM0.out.later LW.out).out
  have HRR := Lib.hid (HR3.out.later LZ.out)
  have HRA := Lib.hid (HAT.out.later (HL56.out.trans (HL7.out.trans LX.out)))
  have HLRS := Lib.hid (show ∀ s ∈ rs, s.l.length ≤ 1000 from fun s hs => by
    have h1 : s.l ∈ rs.map (·.l) := List.mem_map.2 ⟨s, hs, rfl⟩
    rw [HRS.out] at h1
    simp at h1
    rcases h1 with h1 | h1 <;> rw [h1] <;> decide)
  have HLT2 := Lib.hid (show ∀ s ∈ [(⟨some ⟨g0, 0, none⟩, 1, [vI 1]⟩ : SlV), ⟨some ⟨g1, 0, none⟩, 1, [vI 2]⟩], s.l.length ≤ 1000 from fun s hs => by
    rcases List.mem_cons.1 hs with rfl | hs
    · show [vI 1].length ≤ 1000; decide
    · rw [List.mem_singleton] at hs; subst hs; show [vI 2].length ≤ 1000; decide)
  have HLT3 := Lib.hid (show ∀ s ∈ [(⟨some ⟨g1, 0, none⟩, 1, [vI 2]⟩ : SlV), ⟨some ⟨g0, 0, none⟩, 1, [vI 1]⟩], s.l.length ≤ 1000 from fun s hs => by
    rcases List.mem_cons.1 hs with rfl | hs
    · show [vI 2].length ≤ 1000; decide
    · rw [List.mem_singleton] at hs; subst hs; show [vI 1].length ≤ 1000; decide)
  have HSR := Lib.hid (fun (W : World) (l : Later w15 W) => (sameRows_any RA (some ⟨g2, 0, none⟩) 2 2 rc 2 rs _ W HR2.out.symm rfl (by omega) (by omega) (HRA.out.later l) (HRR.out.later l) HLRS.out HLT2.out).mono fun e w' h => h.yes HRS.out)
  have HLIT := Lib.hid (fun (W : World) (gl : Nat) (l : Later w15 W) (hb : Blk W gl #[.slice (some ⟨g1, 0, none⟩) 1 1, .slice (some ⟨g0, 0, none⟩) 1 1] 27) => show RowsAt W (some ⟨gl, 0, none⟩) [⟨some ⟨g1, 0, none⟩, 1, [vI 2]⟩, ⟨some ⟨g0, 0, none⟩, 1, [vI 1]⟩] from rowsAt_two hb ((HOK1.out.later LZ.out).later l) ((HOK0.out.later LZ.out).later l))
  have HSB := Lib.hid (fun (W : World) (gl : Nat) (l : Later w15 W) (hb : Blk W gl #[.slice (some ⟨g1, 0, none⟩) 1 1, .slice (some ⟨g0, 0, none⟩) 1 1] 27) => (sameBag_any RA (some ⟨gl, 0, none⟩) 2 2 rc 2 rs _ W HR2.out.symm rfl (by omega) (by omega) (HRA.out.later l) (HLIT.out W gl l hb) HRZ.out (fun h => by cases h) HLRS.out HLT3.out).mono fun e w' h => h.yes (by rw [HRS.out]; exact .swap _ _ _))
  have HSN := Lib.hid (fun (W : World) (gl : Nat) (l : Later w15 W) (hb : Blk W gl #[.slice (some ⟨g1, 0, none⟩) 1 1, .slice (some ⟨g0, 0, none⟩) 1 1] 27) => (sameRows_any RA (some ⟨gl, 0, none⟩) 2 2 rc 2 rs _ W HR2.out.symm rfl (by omega) (by omega) (HRA.out.later l) (HLIT.out W gl l hb) HLRS.out HLT3.out).mono fun e w' h => h.no (by
    rw [HRS.out]
    intro h
    simp at h))
  have HLF := Lib.hid (HL3.out.trans LZ.out)
  have b3 := HB2.out.later LZ.out
  have r0 : w15.cell? ⟨g2, 0, none⟩ = some (.slice (some ⟨g0, 0, none⟩) 1 1) := b3.cell 0 _ rfl
  have r1 : w15.cell? ⟨g2, 1, none⟩ = some (.slice (some ⟨g1, 0, none⟩) 1 1) := b3.cell 1 _ rfl
  clear l15 HS hw14 hg14 hcl b3 HL14 HL12 HL13 HL10 HL79 HL7 HL6 HL56 HL4 HRS HAT HR2 HRZ HZR HZ1 HCZ HZL HPK0 HPV HM0 HLRS HLT2 HLT3 HLIT HRA HRR HB2 HR3 HOK0 HOK1 LW LX LY LZ HL3
  have lz := Later.refl w15
  go_wp2_with fail
  simp only [List.append_eq, List.cons_append, List.nil_append]
  go_region_held3 (fun Y => Y.cell? ⟨g2, 0, none⟩ = some (.slice (some ⟨g0, 0, none⟩) 1 1) ∧ Y.cell? ⟨g2, 1, none⟩ = some (.slice (some ⟨g1, 0, none⟩) 1 1) ∧ Y.cell? ⟨gc, 0, none⟩ = some (.slice ca 2 cc) ∧ Y.cell? ⟨pb, po, none⟩ = some (.slice (some ⟨vb, vo, none⟩) 1 pcc) ∧ Y.cell? ⟨vb, vo + 1, none⟩ = some (.int .i64 2) ∧ Y.cell? ⟨mb, mo, none⟩ = some (.int .i64 2)) (first | exact ⟨r0, r1, ck, pk, pv, m0⟩ | exact ⟨(Later.new _ _).cell r0, (Later.new _ _).cell r1, (Later.new _ _).cell ck, (Later.new _ _).cell pk, (Later.new _ _).cell pv, (Later.new _ _).cell m0⟩) (first
    | (go_at_call 16; refine (HSR.out _ (by first | exact lz | exact lz.drew)).mono ?_; rintro e wX ⟨rfl, lX⟩; have r0 := lX.cell r0; have r1 := lX.cell r1; have ck := lX.cell ck; have pk := lX.cell pk; have pv := lX.cell pv; have m0 := lX.cell m0; have lz : Later w15 wX := (by first | exact lz.trans lX | exact lz.drew.trans lX); clear lX)
    | (go_at_call 20; clear HSR; refine (HSB.out _ _ (by first | exact lz.alloc _ | exact (lz.alloc _).drew) (by first | exact Blk.new _ _ _ _ rfl | exact (Blk.new _ _ _ _ rfl).drew)).mono ?_; rintro e wX ⟨rfl, lX⟩; have lX := (Later.new _ _).trans lX; have r0 := lX.cell r0; have r1 := lX.cell r1; have ck := lX.cell ck; have pk := lX.cell pk; have pv := lX.cell pv; have m0 := lX.cell m0; have lz := lz.trans lX; clear lX)
    | (go_at_call 16; refine (HSN.out _ _ (by first | exact lz.alloc _ | exact (lz.alloc _).drew) (by first | exact Blk.new _ _ _ _ rfl | exact (Blk.new _ _ _ _ rfl).drew)).mono ?_; rintro e wX ⟨rfl, lX⟩; have lX := (Later.new _ _).trans lX; have r0 := lX.cell r0; have r1 := lX.cell r1; have ck := lX.cell ck; have pk := lX.cell pk; have pv := lX.cell pv; have m0 := lX.cell m0; have lz := lz.trans lX; clear lX))
  go_wp2_with fail
  go_ret
  exact ⟨rfl, HLF.out.trans lz⟩
end Go.Proofs.YtlfmmhbaphnifaaRRRRGreatDoor
