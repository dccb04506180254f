/- rabbetlaw15.begun. -/
import Derived.Test.YtklohbglkbhjhaaDoorSchZ
namespace Go.Proofs.YtklohbglkbhjhaaDoor
open Go.RowKit
set_option linter.unusedVariables false

theorem ApP.ok {s : St3} {c : Chg} {w w' : World} {e : Ending} (h : ApP s c w e w') (s' : St3) (hs : applyM s c = .ok s') :
    ∃ gv vc ge ec, e = .returned (.tuple #[.agg #[.slice (some ⟨gv, 0, none⟩) s'.1.length vc, .int .i64 s'.2.1], lagg s'.2.2 (some ⟨ge, 0, none⟩) s'.2.2.enc.length ec, .int .i64 0]) ∧
      w'.ownsRow w.heap.size 59 3 (.slice (some ⟨gv, 0, none⟩) s'.1.length vc) s'.1.length (fc s'.1) ∧ w'.ownsRow w.heap.size 3 1 (.slice (some ⟨ge, 0, none⟩) s'.2.2.enc.length ec) s'.2.2.enc.length (ein s'.2.2.enc) ∧ Later w w' := by
  obtain ⟨l, ⟨n, h1, hn, he⟩ | ⟨t, gv, vc, ge, ec, h1, he, ov, oe, _⟩⟩ := h
  · rw [hs] at h1; cases h1
  · rw [hs] at h1
    injection h1 with h1
    subst h1
    exact ⟨gv, vc, ge, ec, he, ov, oe, l⟩
theorem ApP.no {s : St3} {c : Chg} {w w' : World} {e : Ending} (h : ApP s c w e w') (n : Int) (hs : applyM s c = .error n) :
    e = .returned (.tuple #[.agg #[.slice none 0 0, .int .i64 0], .agg #[.int .i64 0, .int .i64 0, .int .i64 0, .slice none 0 0], .int .i64 n]) ∧ Later w w' := by
  obtain ⟨l, ⟨m, h1, hn, he⟩ | ⟨t, gv, vc, ge, ec, h1, he, ov, oe, _⟩⟩ := h
  · rw [hs] at h1
    injection h1 with h1
    subst h1
    exact ⟨he, l⟩
  · rw [hs] at h1; cases h1
abbrev nA : ByteArray := ⟨#[97]⟩
abbrev nB : ByteArray := ⟨#[98]⟩
abbrev sB15 : St3 := ([(1, nA, 2)], 1, ⟨0, 0, 1, [1]⟩)
abbrev cB1 : Chg := ⟨1, 0, nB, 4, (0, 0, ⟨#[]⟩), 0, 0⟩
abbrev cB2 : Chg := ⟨2, 1, ⟨#[]⟩, 0, (0, 0, ⟨#[]⟩), 0, 0⟩
abbrev tB15 : St3 := ([(1, nA, 2), (2, nB, 4)], 2, ⟨0, 0, 1, [1, 1]⟩)
theorem b15_ok : applyM sB15 cB1 = .ok tB15 := by kernel_rfl
theorem b15_no : applyM sB15 cB2 = .error 1 := by kernel_rfl
theorem b15_may : MayS sB15.1 1 := by decide +kernel
theorem b15_lay : MayLy sB15.1 sB15.2.2 := by decide +kernel
theorem b15_nm : NameL nA := by decide +kernel
theorem b15_fc : findC tB15.1 nB = some 1 := by kernel_rfl
theorem b15_fi : findI tB15.1 2 = some 1 := by kernel_rfl
theorem b15_fit : FitsL sB15.1 [(0, 0, ⟨#[]⟩)] := ⟨rfl, fun i h h' => by
  obtain rfl : i = 0 := by simp at h; omega
  show FitsV 2 (0, 0, ⟨#[]⟩)
  decide +kernel⟩
theorem b15_nofit : ¬ FitsL sB15.1 [] := fun h => by cases h.1

set_option maxRecDepth 100000 in
set_option maxHeartbeats 8000000 in
theorem begun15_any (w : World) (f : Int → Addr) (hs : S15 w f) (h3 : S3 w) :
    Calls Tryd.prog 9 #[] w fun e w' => e = .returned (.bool true) ∧ Later w w' := by
  obtain ⟨g, hg⟩ : ∃ x, w.heap.size = x := ⟨_, rfl⟩
  obtain ⟨w1, hw1⟩ : ∃ x : World, (((w.alloc (.cells #[.int .i64 1, .string nA, .int .i64 2] 59)).alloc (.cells #[.slice (some ⟨g, 0, none⟩) 1 1, .int .i64 1] 24)).alloc (.cells #[.int .i64 1] 3)).alloc (.cells #[.int .i64 0, .int .i64 0, .int .i64 1, .slice (some ⟨g + 2, 0, none⟩) 1 1] 27) = x := ⟨_, rfl⟩
  have l1 : Later w w1 := hw1 ▸ (((Later.new w _).alloc _).alloc _).alloc _
  have b0 : Blk w1 g #[.int .i64 1, .string nA, .int .i64 2] 59 := hw1 ▸ (((Blk.new w _ _ _ hg.symm).later (Later.new _ _)).later (Later.new _ _)).later (Later.new _ _)
  have b1 : Blk w1 (g + 1) #[.slice (some ⟨g, 0, none⟩) 1 1, .int .i64 1] 24 := hw1 ▸ ((Blk.new _ _ _ _ (by simp; omega)).later (Later.new _ _)).later (Later.new _ _)
  have b2 : Blk w1 (g + 2) #[.int .i64 1] 3 := hw1 ▸ (Blk.new _ _ _ _ (by simp; omega)).later (Later.new _ _)
  have b3 : Blk w1 (g + 3) #[.int .i64 0, .int .i64 0, .int .i64 1, .slice (some ⟨g + 2, 0, none⟩) 1 1] 27 := hw1 ▸ Blk.new _ _ _ _ (by simp; omega)
  have HHC := Lib.hid (show Has w1 (some ⟨g, 0, none⟩) (fc sB15.1) from Blk.has (cs := [.int .i64 1, .string nA, .int .i64 2]) b0)
  have HHE := Lib.hid (show Has w1 (some ⟨g + 2, 0, none⟩) (ein sB15.2.2.enc) from Blk.has (cs := [.int .i64 1]) b2)
  have HB1 := Lib.hid b1
  have HB3 := Lib.hid b3
  have HL := Lib.hid l1
  have HS := Lib.hid (hs.later l1)
  have H3 := Lib.hid (h3.later l1)
  have HA1 := Lib.hid (show Calls Tryd.prog 14 #[.agg #[.slice (some ⟨g, 0, none⟩) 1 1, .int .i64 1], .agg #[.int .i64 0, .int .i64 0, .int .i64 1, .slice (some ⟨g + 2, 0, none⟩) 1 1], .agg #[.int .i64 1, .int .i64 0, .string nB, .int .i64 4, .int .i64 0, .int .i64 0, .string ⟨#[]⟩, .int .u8 0, .int .i64 0]] w1 (ApP sB15 cB1 w1) from
    schApply_any (some ⟨g, 0, none⟩) (some ⟨g + 2, 0, none⟩) 1 1 sB15 cB1 w1 f HS.out H3.out HHC.out HHE.out (by decide) (by decide) (fun x hx => by rw [List.mem_singleton] at hx; subst hx; decide) (by decide) (fun h => by cases h) (fun h => by cases h))
  have e0 := b1.cell 0 _ rfl
  have e1 := b1.cell 1 _ rfl
  have d0 := b3.cell 0 _ rfl
  have d1 := b3.cell 1 _ rfl
  have d2 := b3.cell 2 _ rfl
  have d3 := b3.cell 3 _ rfl
  clear l1 b0 b1 b2 b3 hs h3
  go_enter Tryd.func9, Tryd.ntmps9
  go_wp2_with fail
  try simp only [Nat.add_assoc, Nat.reduceAdd]
  refine HA1.out.mono ?_
  intro e w2 h2
  obtain ⟨gv, vc, ge, ec, he, ov, oe, l2⟩ := h2.ok _ b15_ok
  obtain rfl : e = .returned (.tuple #[.agg #[.slice (some ⟨gv, 0, none⟩) 2 vc, .int .i64 2], .agg #[.int .i64 0, .int .i64 0, .int .i64 1, .slice (some ⟨ge, 0, none⟩) 2 ec], .int .i64 0]) := he
  have HHV := Lib.hid (Has.ownG ov)
  have HL2 := Lib.hid l2
  clear h2 ov oe l2 HA1 hw1 hg
  have e0 := (HB1.out.later HL2.out).cell 0 _ rfl
  have e1 := (HB1.out.later HL2.out).cell 1 _ rfl
  have d0 := (HB3.out.later HL2.out).cell 0 _ rfl
  have d1 := (HB3.out.later HL2.out).cell 1 _ rfl
  have d2 := (HB3.out.later HL2.out).cell 2 _ rfl
  have d3 := (HB3.out.later HL2.out).cell 3 _ rfl
  obtain ⟨k, hk⟩ : ∃ x, w2.heap.size = x := ⟨_, rfl⟩
  obtain ⟨w3, hw3⟩ : ∃ x : World, (w2.alloc (.cells #[.slice (some ⟨gv, 0, none⟩) 2 vc, .int .i64 2] 24)).alloc (.cells #[.int .i64 0, .int .i64 0, .int .i64 1, .slice (some ⟨ge, 0, none⟩) 2 ec] 27) = x := ⟨_, rfl⟩
  have l3 : Later w2 w3 := hw3 ▸ (Later.new _ _).alloc _
  have c0 : Blk w3 k #[.slice (some ⟨gv, 0, none⟩) 2 vc, .int .i64 2] 24 := hw3 ▸ (Blk.new w2 _ _ _ hk.symm).later (Later.new _ _)
  have c1 : Blk w3 (k + 1) #[.int .i64 0, .int .i64 0, .int .i64 1, .slice (some ⟨ge, 0, none⟩) 2 ec] 27 := hw3 ▸ Blk.new _ _ _ _ (by simp; omega)
  have HC0 := Lib.hid c0
  have HC1 := Lib.hid c1
  have HL3 := Lib.hid (HL2.out.trans l3)
  have HHV3 := Lib.hid (HHV.out.later l3)
  have f0 := c0.cell 0 _ rfl
  have f1 := c0.cell 1 _ rfl
  have HF := Lib.hid (find_any (some ⟨gv, 0, none⟩) 2 vc 2 tB15.1 nB w3 rfl (by decide) HHV3.out)
  clear l3 c0 c1 e0 e1 d0 d1 d2 d3
  go_wp2_with fail
  refine HF.out.mono ?_
  rintro e w4 ⟨rfl, l4⟩
  rw [b15_fc]
  simp only [Option.getD_some, Option.isSome_some]
  have HL4 := Lib.hid (HL3.out.trans l4)
  have f0 := (HC0.out.later l4).cell 0 _ rfl
  have f1 := (HC0.out.later l4).cell 1 _ rfl
  have HF := Lib.hid (byID_any (some ⟨gv, 0, none⟩) 2 vc 2 tB15.1 2 w4 rfl (by decide) (HHV3.out.later l4))
  have HC1' := Lib.hid (HC1.out.later l4)
  clear l4 HC1 HC0 hk hw3
  go_wp2_with fail
  refine HF.out.mono ?_
  rintro e w5 ⟨rfl, l5⟩
  rw [b15_fi]
  simp only [Option.getD_some, Option.isSome_some]
  have HL5 := Lib.hid (HL4.out.trans l5)
  have HC2 := Lib.hid (HC1'.out.later l5)
  have e0 := (HB1.out.later HL5.out).cell 0 _ rfl
  have e1 := (HB1.out.later HL5.out).cell 1 _ rfl
  have d0 := (HB3.out.later HL5.out).cell 0 _ rfl
  have d1 := (HB3.out.later HL5.out).cell 1 _ rfl
  have d2 := (HB3.out.later HL5.out).cell 2 _ rfl
  have d3 := (HB3.out.later HL5.out).cell 3 _ rfl
  have HA2 := Lib.hid (show Calls Tryd.prog 14 #[.agg #[.slice (some ⟨g, 0, none⟩) 1 1, .int .i64 1], .agg #[.int .i64 0, .int .i64 0, .int .i64 1, .slice (some ⟨g + 2, 0, none⟩) 1 1], .agg #[.int .i64 2, .int .i64 1, .string ⟨#[]⟩, .int .i64 0, .int .i64 0, .int .i64 0, .string ⟨#[]⟩, .int .u8 0, .int .i64 0]] w5 (ApP sB15 cB2 w5) from
    schApply_any (some ⟨g, 0, none⟩) (some ⟨g + 2, 0, none⟩) 1 1 sB15 cB2 w5 f (HS.out.later HL5.out) (H3.out.later HL5.out) (HHC.out.later HL5.out) (HHE.out.later HL5.out) (by decide) (by decide) (fun x hx => by rw [List.mem_singleton] at hx; subst hx; decide) (by decide) (fun h => by cases h) (fun h => by cases h))
  clear l5 HF HC1' f0 f1
  go_wp2_with fail
  refine HA2.out.mono ?_
  intro e w6 h6
  obtain ⟨rfl, l6⟩ := h6.no 1 b15_no
  have HL6 := Lib.hid (HL5.out.trans l6)
  clear h6 HA2 e0 e1 d0 d1 d2 d3
  obtain ⟨w7, hw7⟩ : ∃ x : World, (w6.alloc (.cells #[.slice none 0 0, .int .i64 0] 24)).alloc (.cells #[.int .i64 0, .int .i64 0, .int .i64 0, .slice none 0 0] 27) = x := ⟨_, rfl⟩
  have l7 : Later w6 w7 := hw7 ▸ (Later.new _ _).alloc _
  have HL7 := Lib.hid (HL6.out.trans l7)
  have e0 := (HB1.out.later HL7.out).cell 0 _ rfl
  have e1 := (HB1.out.later HL7.out).cell 1 _ rfl
  have HC3 := Lib.hid (HC2.out.later (l6.trans l7))
  have HM := Lib.hid (schMay_any (some ⟨g, 0, none⟩) 1 1 1 sB15.1 w7 rfl (by decide) (HHC.out.later HL7.out) (fun x hx => by rw [List.mem_singleton] at hx; subst hx; decide))
  have HW7 := Lib.hid hw7
  rw [← hw7] at e0 e1
  clear l7 l6 HC2 hw7
  go_wp2_with fail
  rw [HW7.out]
  refine HM.out.mono ?_
  intro e w8 h8
  obtain ⟨rfl, l8⟩ := h8.yes b15_may
  have HL8 := Lib.hid (HL7.out.trans l8)
  have HC4 := Lib.hid (HC3.out.later l8)
  have e0 := (HB1.out.later HL8.out).cell 0 _ rfl
  have e1 := (HB1.out.later HL8.out).cell 1 _ rfl
  have d0 := (HB3.out.later HL8.out).cell 0 _ rfl
  have d1 := (HB3.out.later HL8.out).cell 1 _ rfl
  have d2 := (HB3.out.later HL8.out).cell 2 _ rfl
  have d3 := (HB3.out.later HL8.out).cell 3 _ rfl
  have HM := Lib.hid (show Calls Tryd.prog 20 #[.agg #[.slice (some ⟨g, 0, none⟩) 1 1, .int .i64 1], .agg #[.int .i64 0, .int .i64 0, .int .i64 1, .slice (some ⟨g + 2, 0, none⟩) 1 1]] w8 (TellsP (MayLy sB15.1 sB15.2.2) w8) from mayLayout_any (some ⟨g, 0, none⟩) (some ⟨g + 2, 0, none⟩) 1 1 1 1 1 sB15.1 sB15.2.2 w8 rfl rfl (by decide) (by decide) (HHC.out.later HL8.out) (HHE.out.later HL8.out))
  clear h8 l8 HC3
  go_wp2_with fail
  refine HM.out.mono ?_
  intro e w9 h9
  obtain ⟨rfl, l9⟩ := h9.yes b15_lay
  have HL9 := Lib.hid (HL8.out.trans l9)
  have HC5 := Lib.hid (HC4.out.later l9)
  have HM := Lib.hid (mayName_any nA w9 (by decide))
  clear h9 l9 HC4 e0 e1 d0 d1 d2 d3
  go_wp2_with fail
  refine HM.out.mono ?_
  intro e wa ha
  obtain ⟨rfl, la⟩ := ha.yes b15_nm
  have HLa := Lib.hid (HL9.out.trans la)
  have c3 := (HC5.out.later la).cell 3 _ rfl
  have e0 := (HB1.out.later HLa.out).cell 0 _ rfl
  have e1 := (HB1.out.later HLa.out).cell 1 _ rfl
  obtain ⟨m, hm⟩ : ∃ x, wa.heap.size = x := ⟨_, rfl⟩
  obtain ⟨wb, hwb⟩ : ∃ x : World, wa.alloc (.cells #[.int .i64 0, .int .i64 0, .string ⟨#[]⟩] 29) = x := ⟨_, rfl⟩
  have lb : Later wa wb := hwb ▸ Later.new _ _
  have bz : Blk wb m #[.int .i64 0, .int .i64 0, .string ⟨#[]⟩] 29 := hwb ▸ Blk.new _ _ _ _ hm.symm
  have HLb := Lib.hid (HLa.out.trans lb)
  have HM := Lib.hid (schFits_any (some ⟨g, 0, none⟩) (some ⟨m, 0, none⟩) 1 1 1 1 1 sB15.1 [(0, 0, ⟨#[]⟩)] wb (H3.out.later HLb.out) rfl rfl (by decide) (by decide) (HHC.out.later HLb.out) (Blk.has (cs := [.int .i64 0, .int .i64 0, .string ⟨#[]⟩]) bz))
  clear ha la lb bz HC5
  go_wp2_with fail
  refine HM.out.mono ?_
  intro e wc hc
  obtain ⟨rfl, lc⟩ := hc.yes b15_fit
  have HLc := Lib.hid (HLb.out.trans lc)
  have e0 := (HB1.out.later HLc.out).cell 0 _ rfl
  have e1 := (HB1.out.later HLc.out).cell 1 _ rfl
  have HM := Lib.hid (schFits_any (some ⟨g, 0, none⟩) none 1 1 0 0 1 sB15.1 [] wc (H3.out.later HLc.out) rfl rfl (by decide) (by decide) (HHC.out.later HLc.out) (.inl rfl))
  clear hc lc hm hwb c3
  go_wp2_with fail
  refine HM.out.mono ?_
  intro e wd hd
  obtain ⟨rfl, ld⟩ := hd.no b15_nofit
  have HLd := Lib.hid (HLc.out.trans ld)
  clear hd ld
  go_wp2_with fail
  go_ret
  exact ⟨rfl, HL.out.trans HLd.out⟩
end Go.Proofs.YtklohbglkbhjhaaDoor
