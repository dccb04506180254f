/- The walk of law 18's begun. -/
import Derived.Test.YtnmldploafpbdaaDevH
import Derived.Test.YtnmldploafpbdaaDevI
namespace Go.Proofs.Ytnmldploafpbdaa
open Go.RowKit
set_option linter.unusedVariables false

/-- A done deed: the device, and that all else that has a type of its own is as it was. -/
def DoneA (base p gs B : Nat) (d : D) (w0 w' : World) : Prop := (∃ gn cs cn A cf, DA w' base p gs gn B cs cn A cf d) ∧ KD w0 w' ∧ Below base w0 w'
theorem DoneP.a {base p gs gn B : Nat} {d : D} {w w' : World} (h : DoneP base p gs gn B d w w') : DoneA base p gs B d w w' := by
  obtain ⟨⟨cs, cn, A, cf, h1⟩, h2, h3⟩ := h
  exact ⟨⟨gn, cs, cn, A, cf, h1⟩, h2, h3⟩
def b78 : List Nat := 7 :: (List.replicate 126 0 ++ [8])
theorem b78_len : b78.length = 128 := by decide +kernel
theorem b78_lt : ∀ x ∈ b78, x < 256 := by decide +kernel
theorem z128_set : (z128.set 0 7).set 127 8 = b78 := by decide +kernel
def mixB : List Nat := b78.take 5 ++ z128.drop 5
theorem hfl1 : ∀ x ∈ ((newD 3).wr 1 b78).fly, x.1 < 3 := fun x hx => by rw [List.mem_singleton.1 hx]; decide
def d6 : D := ((newD 3).wr 1 b78).cr [1] 0 5
def d7 : D := d6.wr 2 b78
def d8 : D := d7.fl
def d9 : D := d8.cr [] (-1) 0
theorem hfl7 : ∀ x ∈ d7.fly, x.1 < 3 := fun x hx => by rw [List.mem_singleton.1 hx]; decide
theorem d6_now : d6.now[1]? = some mixB := by decide +kernel
theorem d9_now : d9.now[2]? = some b78 := by decide +kernel
theorem mixB_0 : mixB[0]? = some 7 := by decide +kernel
theorem mixB_127 : mixB[127]? = some 0 := by decide +kernel
theorem mix_beg : mixL b78 z128 5 = mixB := by decide +kernel

set_option maxRecDepth 100000 in
set_option maxHeartbeats 8000000 in
theorem begun18_any (w : World) :
    Calls Try.prog 7 #[] w fun e w' => e = .returned (.bool true) ∧ Later w w' := by
  have HN := Lib.hid (devNew_any 3 w (by decide))
  have m128 : ∀ W : World, (Instr.makeSlice 31 (.int .i64 128) (.int .i64 128)).run Try.prog W = .ok (.slice (some ⟨W.heap.size, 0, none⟩) 128 128) (W.alloc (.cells (madeCells #[.int .u8 0] 128) 5)) := fun W => run_make_cap 128 128 (Nat.le_refl _) (by omega) W
  go_enter Try.func7, Try.ntmps7
  go_wp2_with fail
  refine HN.out.mono ?_
  rintro e w1 ⟨p, gs, gn, cs, cn, rfl, hda, hl1⟩
  have HL1 := Lib.hid hl1
  have L2 := Later.new w1 (.cells (madeCells #[.int .u8 0] 128) 5)
  have R1 := Row.made w1 5 .u8 128
  obtain ⟨w2, hw2⟩ : ∃ x, w1.alloc (.cells (madeCells #[.int .u8 0] 128) 5) = x := ⟨_, rfl⟩
  rw [hw2] at L2 R1
  obtain ⟨gb, hgb⟩ : ∃ x, w1.heap.size = x := ⟨_, rfl⟩
  rw [hgb] at R1
  have HGB := Lib.hid hgb
  have c0 : w2.cell? ⟨gb, 0, none⟩ = some (.int .u8 0) := R1.cell 0 (by decide)
  have c127 : w2.cell? ⟨gb, 127, none⟩ = some (.int .u8 0) := R1.cell 127 (by decide)
  have f0 := R1.frozen 0
  have f127 := R1.frozen 127
  have HR1 := Lib.hid R1
  have HL2 := Lib.hid L2
  have HDA := Lib.hid hda
  clear hda hl1 R1 HN L2
  have hgw : w1.heap.size ≤ gb := by rw [HGB.out]; exact Nat.le_refl _
  have L3 := (HL2.out.set_ (p := ⟨gb, 0, none⟩) hgw (.int .u8 7)).set_ (p := ⟨gb, 127, none⟩) hgw (.int .u8 8)
  have R3 := (HR1.out.set' 0 7 7 rfl _ rfl).set' 127 8 8 rfl b78 (by decide +kernel)
  have HD3 := Lib.hid (HDA.out.later L3)
  have HL3 := Lib.hid (HL1.out.trans L3)
  have HBV3 := Lib.hid (show BV ((w2.setCell ⟨gb, 0, none⟩ (.int .u8 7)).setCell ⟨gb, 127, none⟩ (.int .u8 8)) (.slice (some ⟨gb, 0, none⟩) 128 128) b78 from ⟨b78_len, b78_lt, gb, 0, 128, _, rfl, by decide, by decide, R3, fun j u hj => by rw [Nat.zero_add, List.getElem?_toArray]; exact hj⟩)
  have HR3 := Lib.hid R3
  go_wp2_with fail
  obtain ⟨w3, hw3⟩ : ∃ x, (w2.setCell ⟨gb, 0, none⟩ (.int .u8 7)).setCell ⟨gb, 127, none⟩ (.int .u8 8) = x := ⟨_, rfl⟩
  rw [hw3] at HD3 HL3 HBV3 HR3 ⊢
  clear hw3 hw2 c0 c127 f0 f127 L3 R3 hgw HR1 HDA
  refine (devWrite_yes w.heap.size p gs gn 3 cs cn none 0 (newD 3) 1 (some ⟨gb, 0, none⟩) 128 b78 w3 HD3.out (by decide) (by decide) rfl b78_len (Has.row HR3.out) b78_lt (by decide) (by decide) HL3.out.size (by intro h; cases h)).mono ?_
  rintro e w4 ⟨rfl, ⟨cs4, cn4, A4, cf4, hda⟩, kd, bl⟩
  have HD4 := Lib.hid hda
  have HV4 := Lib.hid (kd.bv HBV3.out)
  have HB4 := Lib.hid (HL3.out.below.trans bl)
  have hs4 := bl.size
  clear hda kd bl
  go_wp2_with fail
  refine (devRead_any w.heap.size p gs gn 3 cs4 cn4 A4 cf4 _ 1 w4 HD4.out (by decide) (by decide)).mono ?_
  rintro e w5 ⟨vx, rfl, hbx, l5, xA, xc, rfl⟩
  have HX5 := Lib.hid (show BV w5 (.slice xA 128 xc) b78 from hbx)
  have L5 := Later.new w5 (.cells (ints .u8 [1]).toArray 5)
  have HLT := Lib.hid (Row.lit w5 5 .u8 [1])
  have HD5 := Lib.hid (HD4.out.later (l5.trans L5))
  have HV5 := Lib.hid (HV4.out.later (l5.trans L5))
  have HX6 := Lib.hid (HX5.out.later L5)
  have HB5 := Lib.hid (HB4.out.trans (Below.mono (l5.trans L5).below HB4.out.size))
  clear hbx l5 L5 hs4
  go_wp2_with fail
  refine (devCrash_any w.heap.size p gs gn 3 cs4 cn4 A4 cf4 ((newD 3).wr 1 b78) (some ⟨w5.heap.size, 0, none⟩) 1 1 [1] 0 5 _ HD5.out (by decide) (by decide) hfl1 HB5.out.size rfl (by decide) (Has.row HLT.out) (by decide) (fun b o h _ => by injection h with h; injection h with h1 h2; subst h1; exact ⟨_, HLT.out⟩)).mono ?_
  rintro e w6 ⟨rfl, ⟨gn6, cs6, cn6, A6, cf6, hda⟩, kd, bl⟩
  have HD6 := Lib.hid hda
  have HV6 := Lib.hid (kd.bv HV5.out)
  have HXX := Lib.hid (kd.bv HX6.out)
  have HB6 := Lib.hid (HB5.out.trans bl)
  clear hda kd bl
  have HD6 := Lib.hid (show DA w6 w.heap.size p gs gn6 3 cs6 cn6 A6 cf6 d6 from HD6.out)
  go_wp2_with fail
  refine (devRead_any w.heap.size p gs gn6 3 cs6 cn6 A6 cf6 d6 1 w6 HD6.out (by decide) (by decide)).mono ?_
  rintro e w7 ⟨vy, rfl, hby, l7, yA, yc, rfl⟩
  have hy : BV w7 (.slice yA 128 yc) mixB := by
    have h1 := d6_now
    have h2 := List.getElem?_eq_getElem (l := d6.now) (i := 1) (by decide +kernel)
    rw [h1] at h2
    have h3 := Option.some.inj h2
    rw [h3]; exact hby
  have HY7 := Lib.hid hy
  have HD7 := Lib.hid (HD6.out.later l7)
  have HV7 := Lib.hid (HV6.out.later l7)
  have HX7 := Lib.hid (HXX.out.later l7)
  have HB7 := Lib.hid (HB6.out.trans (Below.mono l7.below HB6.out.size))
  have HK7 := Lib.hid (show ∃ b o c, (.slice (some ⟨gb, 0, none⟩) 128 128 : Value) = .slice (some ⟨b, o, none⟩) 128 c ∧ 128 ≤ c ∧ c ≤ 9223372036854775807 ∧ Has w7 (some ⟨b, o, none⟩) (ints .u8 b78) from HV7.out.has)
  clear hby l7 hy
  go_wp2_with fail
  refine (devWrite_yes w.heap.size p gs gn6 3 cs6 cn6 A6 cf6 d6 2 (some ⟨gb, 0, none⟩) 128 b78 w7 HD7.out (by decide) (by decide) (by decide +kernel) b78_len (by obtain ⟨b, o, c, h1, _, _, h2⟩ := HK7.out; injection h1 with h1; rw [h1]; exact h2) b78_lt (by decide +kernel) (by decide +kernel) HB7.out.size (by intro h; cases h)).mono ?_
  rintro e w8 ⟨rfl, ⟨cs8, cn8, A8, cf8, hda⟩, kd, bl⟩
  have HD8 := Lib.hid (show DA w8 w.heap.size p gs gn6 3 cs8 cn8 A8 cf8 d7 from hda)
  have HV8 := Lib.hid (kd.bv HV7.out)
  have HX8 := Lib.hid (kd.bv HX7.out)
  have HY8 := Lib.hid (kd.bv HY7.out)
  have HB8 := Lib.hid (HB7.out.trans bl)
  clear hda kd bl
  go_wp2_with fail
  refine (devFlush_any w.heap.size p gs gn6 3 cs8 cn8 A8 cf8 d7 w8 HD8.out (by decide) (by decide +kernel) (by decide +kernel) hfl7 HB8.out.size).mono ?_
  rintro e w9 ⟨rfl, ⟨cs9, cn9, A9, cf9, hda⟩, kd, bl⟩
  have HD9 := Lib.hid (show DA w9 w.heap.size p gs gn6 3 cs9 cn9 A9 cf9 d8 from hda)
  have HV9 := Lib.hid (kd.bv HV8.out)
  have HX9 := Lib.hid (kd.bv HX8.out)
  have HY9 := Lib.hid (kd.bv HY8.out)
  have HB9 := Lib.hid (HB8.out.trans bl)
  clear hda kd bl
  go_wp2_with fail
  refine (devCrash_any w.heap.size p gs gn6 3 cs9 cn9 A9 cf9 d8 none 0 0 [] (-1) 0 w9 HD9.out (by decide) (by decide +kernel) (by intro x hx; cases hx) HB9.out.size rfl (by decide) Has.nil_ (by decide) (fun b o h _ => by cases h)).mono ?_
  rintro e w10 ⟨rfl, ⟨gn10, cs10, cn10, A10, cf10, hda⟩, kd, bl⟩
  have HD10 := Lib.hid (show DA w10 w.heap.size p gs gn10 3 cs10 cn10 A10 cf10 d9 from hda)
  have HV10 := Lib.hid (kd.bv HV9.out)
  have HX10 := Lib.hid (kd.bv HX9.out)
  have HY10 := Lib.hid (kd.bv HY9.out)
  have HB10 := Lib.hid (HB9.out.trans bl)
  clear hda kd bl
  go_wp2_with fail
  refine (devRead_any w.heap.size p gs gn10 3 cs10 cn10 A10 cf10 d9 2 w10 HD10.out (by decide) (by decide)).mono ?_
  rintro e w11 ⟨vz, rfl, hbz, l11, zA, zc, rfl⟩
  have hz : BV w11 (.slice zA 128 zc) b78 := by
    have h1 := d9_now
    have h2 := List.getElem?_eq_getElem (l := d9.now) (i := 2) (by decide +kernel)
    rw [h1] at h2
    have h3 := Option.some.inj h2
    rw [h3]; exact hbz
  have HD11 := Lib.hid (HD10.out.later l11)
  have HB11 := Lib.hid (HB10.out.trans (Below.mono l11.below HB10.out.size))
  obtain ⟨b1, o1, c1, hv1, _, _, q1⟩ := (HV10.out.later l11).has
  obtain ⟨b2, o2, c2, hv2, _, _, q2⟩ := (HX10.out.later l11).has
  obtain ⟨b3, o3, c3, hv3, hyc, _, q3⟩ := (HY10.out.later l11).has
  obtain ⟨b4, o4, c4, hv4, _, _, q4⟩ := hz.has
  injection hv1 with hv1 _ hc1
  injection hv2 with hv2 _ hc2
  injection hv3 with hv3 _ hc3
  injection hv4 with hv4 _ hc4
  subst hc1 hc2 hc3 hc4
  have cv1 := conv_str (some ⟨gb, 0, none⟩) 128 128 b78 b78_len.symm w11 _ (by rw [hv1]; exact q1.rd)
  have cv2 := conv_str xA 128 xc b78 b78_len.symm w11 _ (by rw [hv2]; exact q2.rd)
  have cv4 := conv_str zA 128 zc b78 b78_len.symm w11 _ (by rw [hv4]; exact q4.rd)
  obtain ⟨S, hS⟩ : ∃ S, S = bstr b78 := ⟨_, rfl⟩
  rw [← hS] at cv1 cv2 cv4
  have hss : (S.toList == S.toList) = true := by simp
  subst hv3
  have y0 : w11.cell? ⟨b3, o3, none⟩ = some (.int .u8 7) := by
    rcases q3 with h | ⟨b', o', h1, _, h3⟩
    · have := congrArg List.length h; rw [ints_length] at this; exact absurd this (by decide +kernel)
    · injection h1 with h1
      injection h1 with h4 h5
      subst h4 h5
      exact h3 0 _ (by unfold ints; rw [List.getElem?_map, mixB_0]; rfl)
  have y127 : w11.cell? ⟨b3, o3 + 127, none⟩ = some (.int .u8 0) := by
    rcases q3 with h | ⟨b', o', h1, _, h3⟩
    · have := congrArg List.length h; rw [ints_length] at this; exact absurd this (by decide +kernel)
    · injection h1 with h1
      injection h1 with h4 h5
      subst h4 h5
      exact h3 127 _ (by unfold ints; rw [List.getElem?_map, mixB_127]; rfl)
  have HBL := Lib.hid (devBlocks_any p gn10 3 cn10 w11 HD11.out.c1)
  have HWR := Lib.hid (devWrites_any p d9.writes w11 HD11.out.c3)
  rw [show d9.writes = 2 from by decide +kernel] at HWR
  have HST := Lib.hid (devStopped_any p d9.stops d9.left w11 HD11.out.c4 HD11.out.c5)
  rw [show (d9.stops && decide (d9.left ≤ 0)) = false from by decide +kernel] at HST
  have HCP := Lib.hid (devCopy_some w.heap.size p gs gn10 3 cs10 cn10 A10 cf10 d9 w11 HD11.out (by decide) (by decide +kernel))
  clear hbz l11 hz q1 q2 q3 q4 hv1 hv2 hv4 hS
  go_wp2_with fail
  refine HBL.out.mono ?_
  rintro e w' ⟨rfl, rfl⟩
  go_wp2_with fail
  refine HWR.out.mono ?_
  rintro e w' ⟨rfl, rfl⟩
  go_wp2_with fail
  refine HST.out.mono ?_
  rintro e w' ⟨rfl, rfl⟩
  go_wp2_with fail
  refine HCP.out.mono ?_
  rintro e w12 ⟨cq, rfl, l12⟩
  have HF := Lib.hid (show Later w w12 from Later.of (HB11.out.trans (Below.mono l12.below HB11.out.size)))
  clear l12
  go_wp2_with fail
  go_ret
  exact ⟨rfl, HF.out⟩
end Go.Proofs.Ytnmldploafpbdaa
