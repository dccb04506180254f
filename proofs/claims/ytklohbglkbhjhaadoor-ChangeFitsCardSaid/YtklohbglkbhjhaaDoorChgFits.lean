
import Derived.Test.YtklohbglkbhjhaaDoorLight
import Derived.Test.YtklohbglkbhjhaaDoorChgR
import Derived.Test.YtklohbglkbhjhaaDoorChgM
import Derived.Test.YtklohbglkbhjhaaDoorIdsM
import Derived.Test.YtklohbglkbhjhaaDoorRowsM
import Derived.Test.YtklohbglkbhjhaaDoorBase
import Derived.Test.YtklohbglkbhjhaaDoorChgE
import Derived.Test.YtklohbglkbhjhaaDoorPlayC
import Derived.Test.YtklohbglkbhjhaaDoorRApply
import Derived.Test.YtklohbglkbhjhaaDoorRefFR
import Derived.Test.YtklohbglkbhjhaaDoorStayM
import Derived.Test.YtklohbglkbhjhaaDoorPlayS
import Derived.Test.YtklohbglkbhjhaaDoorSchC
import Derived.Test.YtklohbglkbhjhaaDoorPlayV
import Derived.Test.YtklohbglkbhjhaaDoorPlayN
import Derived.Test.YtklohbglkbhjhaaDoorRefSch
import Derived.Test.YtklohbglkbhjhaaDoorRApA
import Derived.Test.YtklohbglkbhjhaaDoorRApT
import Derived.Test.YtklohbglkbhjhaaDoorRApD
import Derived.Test.YtklohbglkbhjhaaDoorRApL
import Derived.Test.YtklohbglkbhjhaaDoorSchA
import Derived.WalkKit
import Derived.Laws.OwnMore
import Derived.Laws.BytesArg
import Derived.Laws.Rows
import Derived.Deep.AppendLies
import Derived.Deep.Draws
import Derived.Test.YtklohbglkbhjhaaDoorChecked
import Derived.Deep.OwnRows
import Derived.Lib.Hide
import Derived.Deep.Quiet
import Derived.Laws.AppendOwnNone
import Derived.Lib.Strings
import Derived.Outline
import Derived.WalkLawsBesides
import Derived.WalkSpells
import Derived.PlainAid
import Derived.Deep.QuietTactic
import Derived.BigQuiet
import Derived.RegionTactic
import Derived.BigRegion
import Derived.Handy
import Derived.Laws.BitsAllLaws
import Derived.Deep.RegionWith
import Derived.Lib.AppendStr
import Derived.Deep.RegionLaw
import Derived.Maps.AppendAt
import Derived.OpenShut
import Derived.WideShapes
import Derived.ChangeArms
import Derived.Deep.Slices
import Derived.Sort.Grow
import Derived.Test.YtklohbglkbhjhaaDoorShelf
import Derived.Lib.IndexLaws
import Derived.Lib.SliceRun
import Derived.Shelf.Spec.SlicesInsert
import Derived.Lib.Overlaps
import Derived.Lib.AppendZerosOnto
import Derived.OrdersHeld
import Derived.LaidEql
import Derived.Stop.Asserts
import Derived.RowKitTokens
import Derived.Stop.IfaceNil
import Derived.Laws.BitsLemmas
import Derived.Laws.Bits64
import Derived.WalkSmall
import Derived.Lib.Bytealg
import Derived.Deep.SlicePairs
import Derived.Deep.CutBlock
import Derived.Deep.MidRow
import Derived.Shelf.Abstract
import Derived.Deep.RegionHeld3
import Derived.Laws.StructEq
import Derived.Lib.QuietBelow
import Derived.Deep.CutRange
/- The walk of ChangeFits. -/







namespace Go.Proofs.YtklohbglkbhjhaaDoor
open Go.RowKit
set_option linter.unusedVariables false

/-- A row that was made fits. -/
theorem play_fits {xs : List Col3} {r : List Val3} (ht : ∀ x ∈ xs, TypL x.2.2) (hl : r.length = xs.length) (h : FitR xs r) : FitsL xs r := by
  refine FitG.l ⟨hl, fun i x v hx hv => ?_⟩
  have ht := ht x (List.mem_of_getElem? hx)
  obtain ⟨h1, _⟩ := h i x v hx hv
  rcases h1 with rfl | ⟨h1, h2, _⟩
  · exact ⟨ht, .inl rfl, .inl ⟨rfl, rfl, rfl⟩⟩
  · refine ⟨ht, .inr ?_, h2⟩
    rw [h1]
    unfold tyOf
    obtain ⟨h3, h4⟩ := ht
    by_cases h : 1 ≤ x.2.2 ∧ x.2.2 ≤ 3
    · rw [if_pos h]
    · rw [if_neg h]; omega
theorem fits_small {xs : List Col3} {r : List Val3} (h : FitsL xs r) : ∀ v ∈ r, v.2.2.size ≤ 1000 := by
  intro v hv
  obtain ⟨i, hi⟩ := List.getElem?_of_mem hv
  have h1 := (List.getElem?_eq_some_iff.1 hi).1
  have h2 : i < xs.length := by rw [← h.1]; exact h1
  have h3 := (h.g.2 i _ v (List.getElem?_eq_getElem h2) hi).2.2
  unfold MayV at h3
  omega

set_option maxRecDepth 100000 in
theorem changeFits_long (A A2 : Option Addr) (n c n2 c2 : Nat) (w : World) (hs : S3 w) (h : ¬ (n ≤ 60 ∧ n2 ≤ 60)) :
    Calls Tryd.prog 8 #[.slice A n c, .slice A2 n2 c2] w fun e w' => e = .returned (.bool true) ∧ Later w w' := by
  have HB := Lib.hid (begun16_any w hs)
  clear hs
  go_enter Tryd.func8, Tryd.ntmps8
  go_wp2_with fail
  refine HB.out.mono ?_
  rintro e w1 ⟨rfl, l1⟩
  by_cases h1 : n ≤ 60
  · have d1 : decide ((60 : Int) < (n : Int)) = false := by simp; omega
    have d2 : decide ((60 : Int) < (n2 : Int)) = true := by simp; omega
    clear h
    go_wp2_with fail
    go_ret
    exact ⟨rfl, l1⟩
  · have d1 : decide ((60 : Int) < (n : Int)) = true := by simp; omega
    clear h
    go_wp2_with fail
    go_ret
    exact ⟨rfl, l1⟩

set_option maxRecDepth 100000 in
set_option maxHeartbeats 8000000 in
theorem changeFits_walk (A A2 : Option Addr) (n c n2 c2 : Nat) (bs ms : List Nat) (w : World) (hs : S3 w) (hb : bs.length = n) (hn : n ≤ 60) (hr : Has w A (ints .u8 bs)) (h256 : ∀ x ∈ bs, x < 256) (hb2 : ms.length = n2) (hn2 : n2 ≤ 60) (hr2 : Has w A2 (ints .u8 ms)) (hm256 : ∀ x ∈ ms, x < 256) :
    Calls Tryd.prog 8 #[.slice A n c, .slice A2 n2 c2] w fun e w' => e = .returned (.bool true) ∧ Later w w' := by
  have HB := Lib.hid (begun16_any w hs)
  have HS := Lib.hid hs
  have HR := Lib.hid hr
  have HR2 := Lib.hid hr2
  have hc2 : PkC n2 ms := ⟨by omega, hb2, hm256⟩
  have HC2 := Lib.hid hc2
  have hc : PkC n bs := ⟨by omega, hb, h256⟩
  have HCC := Lib.hid hc
  clear hr h256 hb hs hc hr2 hm256 hb2 hc2
  go_enter Tryd.func8, Tryd.ntmps8
  go_wp2_with fail
  refine HB.out.mono ?_
  rintro e w1 ⟨rfl, l1⟩
  have HL1 := Lib.hid l1
  have HR1 := Lib.hid (HR.out.later l1)
  obtain ⟨g, hg⟩ : ∃ g, w1.heap.size = g := ⟨_, rfl⟩
  clear l1 HB HR
  have hn60 : decide ((60 : Int) < (n : Int)) = false := by simp; omega
  have hn61 : decide ((60 : Int) < (n2 : Int)) = false := by simp; omega
  go_wp2_with (go_at_call 11; refine (made_any A n c _).mono ?_; rintro e w2 ⟨rfl, hw2⟩)
  have l2 : Later w1 w2 := hw2 ▸ Later.new _ _
  have HPK2 := Lib.hid (show Pks w2 g A n c bs from ⟨⟨0, Nat.zero_le _, hw2 ▸ Blk.new _ _ _ g hg.symm⟩, by
    have h := HR1.out
    rcases h with h | ⟨b, off, hA, hb, hcc⟩
    · exact .inl h
    · exact .inr ⟨b, off, hA, by omega, fun k v hv => l2.cell (hcc k v hv)⟩⟩)
  have HL2 := Lib.hid l2
  have HG0 := Lib.hid hg
  clear l2 hw2 HR1 hg hn60 hn61
  refine (schema_any g A n c bs w2 HCC.out HPK2.out).mono ?_
  rintro e w3 ⟨t0, m, ts, V, vc, es, E, ec, d0, d1, d2, rfl, ⟨hm, htl, ht0, hts⟩, ⟨hes, het, hlay⟩, rs⟩
  have HL3 := Lib.hid (show Later w w3 from HL1.out.trans (rs.far.out HG0.out.symm HL2.out))
  obtain ⟨gv, rfl⟩ := own_some rs.oV (by omega)
  obtain ⟨ge, rfl⟩ := own_some rs.oE (by omega)
  have hcl : (playCols t0 m ts).length = m + 2 := by rw [playCols_len, htl]
  have HMAY := Lib.hid (play_may t0 m ts hm htl ht0 hts).1
  have OV3 := Lib.hid (show w3.ownsRow w.heap.size 59 3 (.slice (some ⟨gv, 0, none⟩) (m + 2) vc) (m + 2) (fc (playCols t0 m ts)) from own_weak rs.oV (Nat.le_trans HL1.out.size HL2.out.size))
  have OE3 := Lib.hid (show w3.ownsRow w.heap.size 3 1 (.slice (some ⟨ge, 0, none⟩) (m + 2) ec) (m + 2) (ein es) from own_weak rs.oE (Nat.le_trans HL1.out.size HL2.out.size))
  clear rs HPK2 HCC HL2 HG0 hts het hlay ht0 htl
  generalize playCols t0 m ts = cols at hcl HMAY OV3
  have hvl : 1 ≤ m + 2 ∧ m + 2 ≤ 4 := by omega
  obtain ⟨vn, hvn⟩ : ∃ x, m + 2 = x := ⟨_, rfl⟩
  rw [hvn] at hcl hes HMAY OV3 OE3 hvl ⊢
  clear hvn hm
  obtain ⟨gs, hgs⟩ : ∃ x, w3.heap.size = x := ⟨_, rfl⟩
  obtain ⟨w4, hw4⟩ : ∃ x : World, (w3.alloc (.cells #[.slice (some ⟨gv, 0, none⟩) vn vc, .int .i64 (vn : Int)] 24)).alloc (.cells #[.int .i64 d0, .int .i64 d1, .int .i64 d2, .slice (some ⟨ge, 0, none⟩) vn ec] 27) = x := ⟨_, rfl⟩
  have l4 : Later w3 w4 := hw4 ▸ (Later.new _ _).alloc _
  obtain ⟨gp, hgp⟩ : ∃ x, w4.heap.size = x := ⟨_, rfl⟩
  obtain ⟨w5, hw5⟩ : ∃ x : World, w4.alloc (.cells #[.slice A2 n2 c2, .int .i64 0] 71) = x := ⟨_, rfl⟩
  have l5 : Later w4 w5 := hw5 ▸ Later.new _ _
  have hMD : Calls Tryd.prog 11 #[.slice A2 n2 c2] w4 (fun e w' => e = .returned (.pointer (some ⟨gp, 0, none⟩)) ∧ w5 = w') := hgp ▸ hw5 ▸ made_any A2 n2 c2 w4
  have HMD := Lib.hid hMD
  have HBS := Lib.hid (show Blk w5 gs #[.slice (some ⟨gv, 0, none⟩) vn vc, .int .i64 (vn : Int)] 24 from Blk.later (hw4 ▸ (Blk.new w3 _ _ gs hgs.symm).later (Later.new _ _)) l5)
  have HBL := Lib.hid (show Blk w5 (gs + 1) #[.int .i64 d0, .int .i64 d1, .int .i64 d2, .slice (some ⟨ge, 0, none⟩) vn ec] 27 from Blk.later (hw4 ▸ Blk.new _ _ _ _ (by simp; omega)) l5)
  have HSZ := Lib.hid (show gs + 2 ≤ gp ∧ gv < gs ∧ ge < gs ∧ w.heap.size ≤ gp from by
    have h1 := (OV3.out.lt gv rfl).2
    have h2 := (OE3.out.lt ge rfl).2
    have h3 : w4.heap.size = gs + 2 := by rw [← hw4, ← hgs]; simp
    have h4 := (HL3.out.trans l4).size
    omega)
  have HPK := Lib.hid (show Pks w5 gp A2 n2 c2 ms from ⟨⟨0, Nat.zero_le _, hw5 ▸ Blk.new _ _ _ _ hgp.symm⟩, by
    rcases HR2.out with h | ⟨b, off, hA, hb, hcc⟩
    · exact .inl h
    · exact .inr ⟨b, off, hA, by have := HSZ.out; omega, fun k v hv => ((HL3.out.trans l4).trans l5).cell (hcc k v hv)⟩⟩)
  have HV := Lib.hid (HasX.mk4 (e := gp) (Has.ownG (own_later OV3.out (l4.trans l5))) (by have := HSZ.out; omega))
  have HE := Lib.hid (HasX.mk4 (e := gp) (Has.ownG (own_later OE3.out (l4.trans l5))) (by have := HSZ.out; omega))
  have HLT := Lib.hid ((HL3.out.trans l4).trans l5)
  have HW4 := Lib.hid hw4
  clear hMD hw4 hw5 l4 l5 OV3 OE3 HL3 hgp HR2 HL1
  go_upto_region 6 with fail
  rw [HW4.out]
  clear HW4 hgs
  go_wp2_with fail
  refine HMD.out.mono ?_
  rintro e w6 ⟨rfl, rfl⟩
  clear HMD
  have HCL := Lib.hid hcl
  have HES := Lib.hid hes
  clear hcl hes
  have HCH := Lib.hid (change_playQ gp A2 n2 c2 ms (some ⟨gv, 0, none⟩) vn vc (vn : Int) cols w5 HC2.out HPK.out HCL.out.symm (by omega) HV.out)
  have s0 := HBS.out.cell 0 _ rfl
  have s1 := HBS.out.cell 1 _ rfl
  go_wp2_with fail
  refine HCH.out.mono ?_
  rintro e w8 ⟨ch, rfl, hcn, hsp, hp8, hf8⟩
  have HBS := Lib.hid (hf8.blk HBS.out (by have := HSZ.out; omega))
  have HBL := Lib.hid (hf8.blk HBL.out (by have := HSZ.out; omega))
  have HV := Lib.hid (HV.out.far hf8)
  have HE := Lib.hid (HE.out.far hf8)
  have HLT := Lib.hid (far_later HLT.out hf8 HSZ.out.2.2.2)
  have HPK := Lib.hid hp8
  have HCN := Lib.hid hcn
  have HSP := Lib.hid hsp
  clear HCH hcn hsp hp8 hf8 s0 s1
  obtain ⟨g9, hg9⟩ : ∃ x, w8.heap.size = x := ⟨_, rfl⟩
  obtain ⟨w9, hw9⟩ : ∃ x, w8.alloc (.cells #[.int .i64 ch.kind, .int .i64 ch.col, .string ch.name, .int .i64 ch.typ, .int .i64 ch.val.1, .int .i64 ch.val.2.1, .string ch.val.2.2, .int .u8 ch.sep, .int .i64 ch.num] 31) = x := ⟨_, rfl⟩
  have l9 : Later w8 w9 := hw9 ▸ Later.new _ _
  have HB9 := Lib.hid (show Blk w9 g9 #[.int .i64 ch.kind, .int .i64 ch.col, .string ch.name, .int .i64 ch.typ, .int .i64 ch.val.1, .int .i64 ch.val.2.1, .string ch.val.2.2, .int .u8 ch.sep, .int .i64 ch.num] 31 from hw9 ▸ Blk.new _ _ _ _ hg9.symm)
  have HG9 := Lib.hid (show g9 ≠ gp from by have := HPK.out.lt; omega)
  have HBS := Lib.hid (HBS.out.later l9)
  have HBL := Lib.hid (HBL.out.later l9)
  have HV := Lib.hid (HV.out.later l9)
  have HE := Lib.hid (HE.out.later l9)
  have HPK := Lib.hid (HPK.out.later l9)
  have HLT := Lib.hid (HLT.out.trans l9)
  have HW9 := Lib.hid hw9
  clear hw9 l9
  unfold cvP
  go_upto_region 8 with fail
  rw [HW9.out]
  clear HW9 hg9
  have s0 := HBS.out.cell 0 _ rfl
  have s1 := HBS.out.cell 1 _ rfl
  have r0 := HBL.out.cell 0 _ rfl
  have r1 := HBL.out.cell 1 _ rfl
  have r2 := HBL.out.cell 2 _ rfl
  have r3 := HBL.out.cell 3 _ rfl
  have q0 := HB9.out.cell 0 _ rfl
  have q1 := HB9.out.cell 1 _ rfl
  have q2 := HB9.out.cell 2 _ rfl
  have q3 := HB9.out.cell 3 _ rfl
  have q4 := HB9.out.cell 4 _ rfl
  have q5 := HB9.out.cell 5 _ rfl
  have q6 := HB9.out.cell 6 _ rfl
  have q7 := HB9.out.cell 7 _ rfl
  have q8 := HB9.out.cell 8 _ rfl
  obtain ⟨s, hs3⟩ : ∃ s : St3, s = (cols, (vn : Int), ⟨d0, d1, d2, es⟩) := ⟨_, rfl⟩
  have HAP := Lib.hid (show Calls Tryd.prog 15 #[.agg #[.slice (some ⟨gv, 0, none⟩) vn vc, .int .i64 (vn : Int)], .agg #[.int .i64 d0, .int .i64 d1, .int .i64 d2, .slice (some ⟨ge, 0, none⟩) vn ec], .agg #[.int .i64 ch.kind, .int .i64 ch.col, .string ch.name, .int .i64 ch.typ, .int .i64 ch.val.1, .int .i64 ch.val.2.1, .string ch.val.2.2, .int .u8 ch.sep, .int .i64 ch.num]] w9 (RApP s ch w9) from by
    subst hs3
    have h := refApply_any (some ⟨gv, 0, none⟩) (some ⟨ge, 0, none⟩) vc ec (cols, (vn : Int), ⟨d0, d1, d2, es⟩) ch w9 HV.out.has HE.out.has (by show cols.length ≤ 1000; rw [HCL.out]; omega) (by show es.length ≤ 1000; rw [HES.out]; omega) HMAY.out.small HCN.out (fun h => by cases h) (fun h => by cases h)
    dsimp only at h
    rw [HCL.out, HES.out] at h
    exact h)
  have HS3 := Lib.hid (show s.1 = cols from by rw [hs3])
  clear hs3
  go_cut [9, 10, 11] from 37 to 44 (fun pv qv ev wx => ResP s ch w9 pv qv ev wx)
  case first => as_aux_lemma =>
    go_wp2_with (go_at_call 15; refine HAP.out.mono ?_; rintro e w11 hap; obtain ⟨A4, n4, c4, last4, sb4, pb4, parts4, E4, en4, ec4, ev4, rfl, hv4, l4⟩ := hap.v (Nat.le_refl _))
    go_meet
    obtain ⟨g11, hg11⟩ : ∃ x, w11.heap.size = x := ⟨_, rfl⟩
    refine ⟨g11, g11 + 1, A4, n4, c4, last4, sb4, pb4, parts4, E4, en4, ec4, ev4, ?_, ?_, rfl, hv4.later ((Later.new _ _).alloc _), (Blk.new _ _ _ _ hg11.symm).later (Later.new _ _), Blk.new _ _ _ _ (by simp; omega), by omega, by have := l4.size; omega, by have := l4.size; omega, l4.trans ((Later.new _ _).alloc _)⟩
    · rw [hg11]
    · rw [hg11]
  case rest =>
  obtain ⟨g11, g12, A4, n4, c4, last4, sb4, pb4, parts4, E4, en4, ec4, ev4, rfl, rfl, rfl, hv4, hb11, hb12, hne, hg11, hg12, l4⟩ := hcut
  have HBS := Lib.hid (HBS.out.later l4)
  have HB9 := Lib.hid (HB9.out.later l4)
  have HV := Lib.hid (HV.out.later l4)
  have HGP := Lib.hid (show gp < w9.heap.size from HPK.out.lt)
  have HPK := Lib.hid (HPK.out.later l4)
  have HLT4 := Lib.hid (HLT.out.trans l4)
  clear HAP s0 s1 r0 r1 r2 r3 q0 q1 q2 q3 q4 q5 q6 q7 q8 HBL HE HLT hb12 hne hg12
  rcases hv4 with ⟨k, hk, hkm, rfl, rfl, rfl, rfl, rfl, rfl, rfl, rfl, rfl, rfl, rfl⟩ | ⟨s', gv', ge', hs', rfl, rfl, hn4, hla4, hsb4, hpb4, hpa4, rfl, hen4, o41, o42, -⟩
  · have hk0 : (ev4 != 0) = true := by
      simp only [List.mem_cons, List.not_mem_nil, or_false] at hkm
      simp; omega
    clear l4 hb11 hk hkm
    go_wp2_with fail
    go_ret
    exact ⟨rfl, HLT4.out⟩
  have HB11 := Lib.hid hb11
  have HG11 := Lib.hid (show g11 ≠ gp ∧ g9 ≠ gp ∧ gs ≠ gp from ⟨by have := HGP.out; omega, HG9.out, by have := HSZ.out; omega⟩)
  have HAM := Lib.hid hs'
  subst hn4 hla4
  have HT := Lib.hid o41
  have hl6 := (mayS_iff.1 (applyM_may hs')).len
  have HL6 := Lib.hid hl6
  clear o41 o42 hb11 hs' hl6 hsb4 hpb4 hpa4 hen4 l4 hg11
  have s0 := HBS.out.cell 0 _ rfl
  have s1 := HBS.out.cell 1 _ rfl
  have HRS := Lib.hid (rows_any 10 gp A2 n2 c2 ms (some ⟨gv, 0, none⟩) vn vc (vn : Int) cols wc HC2.out HPK.out HCL.out.symm (by omega) (by omega) HV.out)
  go_wp2_with fail
  refine HRS.out.mono ?_
  rintro e w12 ⟨ss, L, lc, rfl, hss, hon, hfit, hp12, hf12⟩
  have HBS := Lib.hid (hf12.blk HBS.out HG11.out.2.2)
  have HB9 := Lib.hid (hf12.blk HB9.out HG11.out.2.1)
  have HB11 := Lib.hid (hf12.blk HB11.out HG11.out.1)
  have HT := Lib.hid (hf12.own HGP.out HT.out)
  have HV := Lib.hid (HV.out.far hf12)
  have HLT4 := Lib.hid (far_later HLT4.out hf12 HSZ.out.2.2.2)
  have HRR := Lib.hid (show RowsAt w12 L ss from hon.at_.1)
  have HSS := Lib.hid hss
  have HFL := Lib.hid (fun (i : Nat) (h : i < ss.length) => (play_fits (fun x hx => (HMAY.out.col x hx).2.2) (hfit _ (List.getElem_mem h)).2.1 (hfit _ (List.getElem_mem h)).2.2 : FitsL cols ss[i].l))
  clear hss hon hfit hp12 hf12 s0 s1 HRS HPK HC2 HG11 HG9
  obtain ⟨sep, hsep⟩ : ∃ sep : Nat, ch.sep = (sep : Int) := ⟨ch.sep.toNat, by have := HSP.out; omega⟩
  have hs2 : sep < 256 := by have := HSP.out; omega
  have HOK := Lib.hid (fun hk => by have h := applyM_col HAM.out hk; rw [HS3.out] at h; exact h : ch.kind = 2 ∨ ch.kind = 4 ∨ ch.kind = 5 → (findI cols ch.col).isSome = true)
  obtain ⟨out, hout⟩ : ∃ o : List (List Val3), o = ss.map (fun x => rowM cols ch sep x.l) := ⟨_, rfl⟩
  have hol : out.length = 10 := by rw [hout, List.length_map, HSS.out]
  have HOL := Lib.hid hol
  have HOUT := Lib.hid (fun (i : Nat) (h : i < ss.length) (h' : i < out.length) => (by subst hout; simp : out[i] = rowM cols ch sep ss[i].l))
  have HRW := Lib.hid (show Calls Tryd.prog 34 #[.agg #[.slice (some ⟨gv, 0, none⟩) vn vc, .int .i64 (vn : Int)], .agg #[.int .i64 ch.kind, .int .i64 ch.col, .string ch.name, .int .i64 ch.typ, .int .i64 ch.val.1, .int .i64 ch.val.2.1, .string ch.val.2.2, .int .u8 ch.sep, .int .i64 ch.num], .slice L 10 lc] w12 (RowsW out 10 w12) from by
    rw [hsep]
    refine chRows_all (some ⟨gv, 0, none⟩) L vn vc 10 lc (vn : Int) ch.kind ch.col ch.name ch.typ ch.val.1 ch.val.2.1 ch.val.2.2 sep ch.num ss out w12 HSS.out.symm hol.symm (by omega) HRR.out ?_
    intro i h h' W lW
    rw [HOUT.out i h h']
    obtain ⟨rb, ro, hA, _, hrr, _, _, hnn⟩ := (HRR.out.later lW).get i h
    have hf := HFL.out i h
    have hrl : ss[i].l.length = vn := by rw [hf.1, HCL.out]
    have := chRow_all (some ⟨gv, 0, none⟩) ss[i].a vn vc ss[i].l.length ss[i].c (vn : Int) cols ss[i].l ch sep W (HS.out.later (HLT4.out.trans lW)) HCL.out.symm rfl (by omega) (by omega) (HV.out.has.later lW) hrr hnn hf hsep hs2 (by omega) (fits_small hf) HOK.out
    unfold cvC at this
    rw [hsep] at this
    exact this)
  have HFT := Lib.hid (fun (i : Nat) (h : i < ss.length) => (by have h1 := fits_changed (r := ss[i].l) sep HAM.out (by rw [HS3.out]; exact HFL.out i h); rw [HS3.out] at h1; exact h1 : FitsL s'.1 (rowM cols ch sep ss[i].l)))
  have HST := Lib.hid (fun (i : Nat) (h : i < ss.length) (h6 : 6 ≤ ch.kind) => (rowM_stays h6 : rowM cols ch sep ss[i].l = ss[i].l))
  have HVN := Lib.hid (fun (i : Nat) (h : i < ss.length) => (by have := HFL.out i h; rw [this.1, HCL.out]; omega : ss[i].l.length ≤ 4))
  have HRLEN := Lib.hid (fun (i : Nat) (h : i < ss.length) => rowM_len cols ch sep ss[i].l)
  clear hout hol hsep hs2 HOK HFL HMAY HAM HCN HSP
  have s0 := HBS.out.cell 0 _ rfl
  have s1 := HBS.out.cell 1 _ rfl
  have q0 := HB9.out.cell 0 _ rfl
  have q1 := HB9.out.cell 1 _ rfl
  have q2 := HB9.out.cell 2 _ rfl
  have q3 := HB9.out.cell 3 _ rfl
  have q4 := HB9.out.cell 4 _ rfl
  have q5 := HB9.out.cell 5 _ rfl
  have q6 := HB9.out.cell 6 _ rfl
  have q7 := HB9.out.cell 7 _ rfl
  have q8 := HB9.out.cell 8 _ rfl
  go_wp2_with fail
  refine HRW.out.mono ?_
  rintro e w13 ⟨X, xc, zs, rfl, hz, hzr, l13⟩
  have HB9 := Lib.hid (HB9.out.later l13)
  have HB11 := Lib.hid (HB11.out.later l13)
  have HT := Lib.hid (own_later HT.out l13)
  have HRR := Lib.hid (HRR.out.later l13)
  have HLT4 := Lib.hid (HLT4.out.trans l13)
  have HZ := Lib.hid hz
  have HZR := Lib.hid hzr
  clear hz hzr l13 s0 s1 q0 q1 q2 q3 q4 q5 q6 q7 q8 HRW HBS HV
  go_wp2_with fail
  go_loopw [15] (fun iv wr => ∃ k : Nat, k ≤ 10 ∧ iv = .int .i64 k ∧ Later w13 wr) (fun i _ => 10 - (intOf i).toNat)
  case atStart => exact ⟨0, Nat.zero_le _, rfl, Later.refl _⟩
  case round =>
    obtain ⟨k, hk, rfl, lat⟩ := hrel
    by_cases hlt : k < 10
    rotate_left
    · have hii : ¬ (k : Int) < 10 := by omega
      have HL := Lib.hid (HLT4.out.trans lat)
      clear lat
      go_wp2_with fail
      go_ret
      exact ⟨rfl, HL.out⟩
    have hii : (k : Int) < 10 := by omega
    have hks : k < ss.length := by have := HSS.out; omega
    have hko : k < out.length := by have := HOL.out; omega
    have hkz : k < zs.length := by have h := congrArg List.length HZ.out; rw [List.length_map] at h; omega
    have hzk : zs[k].l = rowM cols ch sep ss[k].l := by
      rw [← HOUT.out k hks hko]
      have h : (zs.map SlV.l)[k]? = out[k]? := by rw [HZ.out]
      rw [List.getElem?_map, List.getElem?_eq_getElem hkz, List.getElem?_eq_getElem hko] at h
      simpa using h
    obtain ⟨xb, xo, hXA, cx, hxr, -, -, -⟩ := (HZR.out.later lat).get k hkz
    obtain ⟨rb, ro, hLA, cr, hrr, -, -, -⟩ := (HRR.out.later lat).get k hks
    subst hXA hLA
    have hft := HFT.out k hks
    have hst := HST.out k hks
    have hvn := HVN.out k hks
    have hrn := HRLEN.out k hks
    rw [← hzk] at hft hst hrn
    have HTR := Lib.hid (Has.ownG (own_later HT.out lat))
    have HF1 := Lib.hid (fun (W : World) (l : Later wr W) => (refFitsR_any (some ⟨gv', 0, none⟩) zs[k].a s'.1.length c4 zs[k].l.length zs[k].c s'.2.1 s'.1 zs[k].l W rfl rfl (by have h1 := hft.1; omega) (by omega) (HTR.out.later l) (hxr.later l)).mono fun e w' h => TellsP.yes hft h)
    have HF2 := Lib.hid (fun (h6 : 6 ≤ ch.kind) (W : World) (l : Later wr W) => (refSameRow_any zs[k].a ss[k].a zs[k].l.length ss[k].l.length zs[k].c ss[k].c zs[k].l ss[k].l W rfl rfl (hxr.later l) (hrr.later l) (by omega) (by omega)).mono fun e w' h => TellsP.yes (hst h6) h)
    have HCX := Lib.hid (show CellIs wr ⟨xb, xo + k, none⟩ (.slice zs[k].a zs[k].l.length zs[k].c) from cx)
    have HCR := Lib.hid (show CellIs wr ⟨rb, ro + k, none⟩ (.slice ss[k].a ss[k].l.length ss[k].c) from cr)
    clear cx cr hft hst hvn hrn hxr hrr hzk HTR
    generalize zs[k].a = za at HF1 HF2 HCX
    generalize zs[k].l.length = zl at HF1 HF2 HCX
    generalize zs[k].c = zc at HF1 HF2 HCX
    generalize ss[k].a = sa at HF2 HCR
    generalize ss[k].l.length = sl at HF2 HCR
    generalize ss[k].c = sc at HF2 HCR
    have HB9 := Lib.hid (HB9.out.later lat)
    have HB11 := Lib.hid (HB11.out.later lat)
    have HLT := Lib.hid lat
    clear lat hkz hks hko HFT HST HVN HRLEN HOUT HZ HZR HRR HSS HOL HT
    go_upto_region 18 with fail
    go_cut [95] from 72 to 95 (fun cv wx => cv = .bool false ∧ Later wr wx)
    case first => as_aux_lemma =>
      by_cases h6 : 6 ≤ ch.kind
      · have HK6 := Lib.hid (show decide ((6 : Int) ≤ ch.kind) = true by simp; omega)
        have HF2 := Lib.hid (HF2.out h6)
        clear h6
        refine wp_region_K (S := fun W : World => Later wr W) (R := Later) (fun _ => Later.refl _) (by kernel_rfl) ?_
        have hS : (fun W : World => Later wr W) wr.drew := (Later.refl wr).drew
        refine wpAnyK_take Later.refl (fun _ _ _ h k => h.trans k) (fun _ _ h k => h.trans k) (i := 0) (oi := { dst := some 72, op := _, type := _, pos := _, after := _, guard := _ }) (v := ?_) rfl (by kernel_rfl) (by kernel_rfl) (by kernel_rfl) (fun _ _ _ h => h) (Or.inl (Or.inl ⟨by rfl, ?_⟩)) hS ?_
        rotate_left
        focus ((intro w hSw; (try dsimp only at hSw); have c0 := (HB11.out.later hSw).cell 0 _ rfl; have c1 := (HB11.out.later hSw).cell 1 _ rfl; go_simp); (try with_reducible rfl))
        intro wq hwq
        replace hS := hS.trans hwq
        (try simp only [Act.put, List.setIfInBounds_toArray, List.set_cons_zero, List.set_cons_succ])
        clear hwq
        refine wpAnyK_take Later.refl (fun _ _ _ h k => h.trans k) (fun _ _ h k => h.trans k) (i := 1) (oi := { dst := some 73, op := _, type := _, pos := _, after := _, guard := _ }) (v := ?_) rfl (by kernel_rfl) (by kernel_rfl) (by kernel_rfl) (fun _ _ _ h => h) (Or.inl (Or.inl ⟨by rfl, ?_⟩)) hS ?_
        rotate_left
        focus ((intro w hSw; (try dsimp only at hSw); skip; go_simp); (try with_reducible rfl))
        intro wq hwq
        replace hS := hS.trans hwq
        (try simp only [Act.put, List.setIfInBounds_toArray, List.set_cons_zero, List.set_cons_succ])
        clear hwq
        refine wpAnyK_take Later.refl (fun _ _ _ h k => h.trans k) (fun _ _ h k => h.trans k) (i := 2) (oi := { dst := some 74, op := _, type := _, pos := _, after := _, guard := _ }) (v := ?_) rfl (by kernel_rfl) (by kernel_rfl) (by kernel_rfl) (fun _ _ _ h => h) (Or.inl (Or.inl ⟨by rfl, ?_⟩)) hS ?_
        rotate_left
        focus ((intro w hSw; (try dsimp only at hSw); skip; go_simp); (try with_reducible rfl))
        intro wq hwq
        replace hS := hS.trans hwq
        (try simp only [Act.put, List.setIfInBounds_toArray, List.set_cons_zero, List.set_cons_succ])
        clear hwq
        refine wpAnyK_take Later.refl (fun _ _ _ h k => h.trans k) (fun _ _ h k => h.trans k) (i := 3) (oi := { dst := some 75, op := _, type := _, pos := _, after := _, guard := _ }) (v := ?_) rfl (by kernel_rfl) (by kernel_rfl) (by kernel_rfl) (fun _ _ _ h => h) (Or.inl (Or.inl ⟨by rfl, ?_⟩)) hS ?_
        rotate_left
        focus ((intro w hSw; (try dsimp only at hSw); skip; go_simp); (try with_reducible rfl))
        intro wq hwq
        replace hS := hS.trans hwq
        (try simp only [Act.put, List.setIfInBounds_toArray, List.set_cons_zero, List.set_cons_succ])
        clear hwq
        refine wpAnyK_take Later.refl (fun _ _ _ h k => h.trans k) (fun _ _ h k => h.trans k) (i := 4) (oi := { dst := some 76, op := _, type := _, pos := _, after := _, guard := _ }) (v := ?_) rfl (by kernel_rfl) (by kernel_rfl) (by kernel_rfl) (fun _ _ _ h => h) (Or.inl (Or.inl ⟨by rfl, ?_⟩)) hS ?_
        rotate_left
        focus ((intro w hSw; (try dsimp only at hSw); have cx := HCX.out.later hSw; have cx := cx.out; go_simp); (try with_reducible rfl))
        intro wq hwq
        replace hS := hS.trans hwq
        (try simp only [Act.put, List.setIfInBounds_toArray, List.set_cons_zero, List.set_cons_succ])
        clear hwq
        refine wpAnyK_take Later.refl (fun _ _ _ h k => h.trans k) (fun _ _ h k => h.trans k) (i := 5) (oi := { dst := some 77, op := _, type := _, pos := _, after := _, guard := _ }) (v := .bool true) rfl (by kernel_rfl) (by kernel_rfl) (by kernel_rfl) (fun _ _ _ h => h) (Or.inr ⟨by rfl, 27, #[.agg #[.slice (some ⟨gv', 0, none⟩) s'.1.length c4, .int .i64 s'.2.1], .slice za zl zc], fun W hW => ⟨?_, HF1.out W hW⟩⟩) hS ?_
        · first | rfl | (go_simp; done)
        intro wq hwq
        replace hS := hS.trans hwq
        (try simp only [Act.put, List.setIfInBounds_toArray, List.set_cons_zero, List.set_cons_succ])
        clear hwq
        refine wpAnyK_take Later.refl (fun _ _ _ h k => h.trans k) (fun _ _ h k => h.trans k) (i := 6) (oi := { dst := some 78, op := _, type := _, pos := _, after := _, guard := _ }) (v := ?_) rfl (by kernel_rfl) (by kernel_rfl) (by kernel_rfl) (fun _ _ _ h => h) (Or.inl (Or.inl ⟨by rfl, ?_⟩)) hS ?_
        rotate_left
        focus ((intro w hSw; (try dsimp only at hSw); skip; go_simp); (try with_reducible rfl))
        intro wq hwq
        replace hS := hS.trans hwq
        (try simp only [Act.put, List.setIfInBounds_toArray, List.set_cons_zero, List.set_cons_succ])
        clear hwq
        refine wpAnyK_take Later.refl (fun _ _ _ h k => h.trans k) (fun _ _ h k => h.trans k) (i := 7) (oi := { dst := some 79, op := _, type := _, pos := _, after := _, guard := _ }) (v := ?_) rfl (by kernel_rfl) (by kernel_rfl) (by kernel_rfl) (fun _ _ _ h => h) (Or.inl (Or.inl ⟨by rfl, ?_⟩)) hS ?_
        rotate_left
        focus ((intro w hSw; (try dsimp only at hSw); skip; go_simp); (try with_reducible rfl))
        intro wq hwq
        replace hS := hS.trans hwq
        (try simp only [Act.put, List.setIfInBounds_toArray, List.set_cons_zero, List.set_cons_succ])
        clear hwq
        refine wpAnyK_take Later.refl (fun _ _ _ h k => h.trans k) (fun _ _ h k => h.trans k) (i := 8) (oi := { dst := some 80, op := _, type := _, pos := _, after := _, guard := _ }) (v := ?_) rfl (by kernel_rfl) (by kernel_rfl) (by kernel_rfl) (fun _ _ _ h => h) (Or.inl (Or.inl ⟨by rfl, ?_⟩)) hS ?_
        rotate_left
        focus ((intro w hSw; (try dsimp only at hSw); skip; go_simp); (try with_reducible rfl))
        intro wq hwq
        replace hS := hS.trans hwq
        (try simp only [Act.put, List.setIfInBounds_toArray, List.set_cons_zero, List.set_cons_succ])
        clear hwq
        refine wpAnyK_take Later.refl (fun _ _ _ h k => h.trans k) (fun _ _ h k => h.trans k) (i := 9) (oi := { dst := some 81, op := _, type := _, pos := _, after := _, guard := _ }) (v := ?_) rfl (by kernel_rfl) (by kernel_rfl) (by kernel_rfl) (fun _ _ _ h => h) (Or.inl (Or.inl ⟨by rfl, ?_⟩)) hS ?_
        rotate_left
        focus ((intro w hSw; (try dsimp only at hSw); have c0 := (HB9.out.later hSw).cell 0 _ rfl; go_simp); (try with_reducible rfl))
        intro wq hwq
        replace hS := hS.trans hwq
        (try simp only [Act.put, List.setIfInBounds_toArray, List.set_cons_zero, List.set_cons_succ])
        clear hwq
        refine wpAnyK_take Later.refl (fun _ _ _ h k => h.trans k) (fun _ _ h k => h.trans k) (i := 10) (oi := { dst := some 82, op := _, type := _, pos := _, after := _, guard := _ }) (v := ?_) rfl (by kernel_rfl) (by kernel_rfl) (by kernel_rfl) (fun _ _ _ h => h) (Or.inl (Or.inl ⟨by rfl, ?_⟩)) hS ?_
        rotate_left
        focus ((intro w hSw; (try dsimp only at hSw); have hk := HK6.out; go_simp); (try with_reducible rfl))
        intro wq hwq
        replace hS := hS.trans hwq
        (try simp only [Act.put, List.setIfInBounds_toArray, List.set_cons_zero, List.set_cons_succ])
        clear hwq
        refine wpAnyK_take Later.refl (fun _ _ _ h k => h.trans k) (fun _ _ h k => h.trans k) (i := 11) (oi := { dst := some 83, op := _, type := _, pos := _, after := _, guard := _ }) (v := ?_) rfl (by kernel_rfl) (by kernel_rfl) (by kernel_rfl) (fun _ _ _ h => h) (Or.inl (Or.inl ⟨by rfl, ?_⟩)) hS ?_
        rotate_left
        focus ((intro w hSw; (try dsimp only at hSw); skip; go_simp); (try with_reducible rfl))
        intro wq hwq
        replace hS := hS.trans hwq
        (try simp only [Act.put, List.setIfInBounds_toArray, List.set_cons_zero, List.set_cons_succ])
        clear hwq
        refine wpAnyK_take Later.refl (fun _ _ _ h k => h.trans k) (fun _ _ h k => h.trans k) (i := 12) (oi := { dst := some 84, op := _, type := _, pos := _, after := _, guard := _ }) (v := ?_) rfl (by kernel_rfl) (by kernel_rfl) (by kernel_rfl) (fun _ _ _ h => h) (Or.inl (Or.inl ⟨by rfl, ?_⟩)) hS ?_
        rotate_left
        focus ((intro w hSw; (try dsimp only at hSw); skip; go_simp); (try with_reducible rfl))
        intro wq hwq
        replace hS := hS.trans hwq
        (try simp only [Act.put, List.setIfInBounds_toArray, List.set_cons_zero, List.set_cons_succ])
        clear hwq
        refine wpAnyK_take Later.refl (fun _ _ _ h k => h.trans k) (fun _ _ h k => h.trans k) (i := 13) (oi := { dst := some 85, op := _, type := _, pos := _, after := _, guard := _ }) (v := ?_) rfl (by kernel_rfl) (by kernel_rfl) (by kernel_rfl) (fun _ _ _ h => h) (Or.inl (Or.inl ⟨by rfl, ?_⟩)) hS ?_
        rotate_left
        focus ((intro w hSw; (try dsimp only at hSw); skip; go_simp); (try with_reducible rfl))
        intro wq hwq
        replace hS := hS.trans hwq
        (try simp only [Act.put, List.setIfInBounds_toArray, List.set_cons_zero, List.set_cons_succ])
        clear hwq
        refine wpAnyK_take Later.refl (fun _ _ _ h k => h.trans k) (fun _ _ h k => h.trans k) (i := 14) (oi := { dst := some 86, op := _, type := _, pos := _, after := _, guard := _ }) (v := ?_) rfl (by kernel_rfl) (by kernel_rfl) (by kernel_rfl) (fun _ _ _ h => h) (Or.inl (Or.inl ⟨by rfl, ?_⟩)) hS ?_
        rotate_left
        focus ((intro w hSw; (try dsimp only at hSw); skip; go_simp); (try with_reducible rfl))
        intro wq hwq
        replace hS := hS.trans hwq
        (try simp only [Act.put, List.setIfInBounds_toArray, List.set_cons_zero, List.set_cons_succ])
        clear hwq
        refine wpAnyK_take Later.refl (fun _ _ _ h k => h.trans k) (fun _ _ h k => h.trans k) (i := 15) (oi := { dst := some 87, op := _, type := _, pos := _, after := _, guard := _ }) (v := ?_) rfl (by kernel_rfl) (by kernel_rfl) (by kernel_rfl) (fun _ _ _ h => h) (Or.inl (Or.inl ⟨by rfl, ?_⟩)) hS ?_
        rotate_left
        focus ((intro w hSw; (try dsimp only at hSw); have cx := HCX.out.later hSw; have cx := cx.out; go_simp); (try with_reducible rfl))
        intro wq hwq
        replace hS := hS.trans hwq
        (try simp only [Act.put, List.setIfInBounds_toArray, List.set_cons_zero, List.set_cons_succ])
        clear hwq
        refine wpAnyK_take Later.refl (fun _ _ _ h k => h.trans k) (fun _ _ h k => h.trans k) (i := 16) (oi := { dst := some 88, op := _, type := _, pos := _, after := _, guard := _ }) (v := ?_) rfl (by kernel_rfl) (by kernel_rfl) (by kernel_rfl) (fun _ _ _ h => h) (Or.inl (Or.inl ⟨by rfl, ?_⟩)) hS ?_
        rotate_left
        focus ((intro w hSw; (try dsimp only at hSw); skip; go_simp); (try with_reducible rfl))
        intro wq hwq
        replace hS := hS.trans hwq
        (try simp only [Act.put, List.setIfInBounds_toArray, List.set_cons_zero, List.set_cons_succ])
        clear hwq
        refine wpAnyK_take Later.refl (fun _ _ _ h k => h.trans k) (fun _ _ h k => h.trans k) (i := 17) (oi := { dst := some 89, op := _, type := _, pos := _, after := _, guard := _ }) (v := ?_) rfl (by kernel_rfl) (by kernel_rfl) (by kernel_rfl) (fun _ _ _ h => h) (Or.inl (Or.inl ⟨by rfl, ?_⟩)) hS ?_
        rotate_left
        focus ((intro w hSw; (try dsimp only at hSw); skip; go_simp); (try with_reducible rfl))
        intro wq hwq
        replace hS := hS.trans hwq
        (try simp only [Act.put, List.setIfInBounds_toArray, List.set_cons_zero, List.set_cons_succ])
        clear hwq
        refine wpAnyK_take Later.refl (fun _ _ _ h k => h.trans k) (fun _ _ h k => h.trans k) (i := 18) (oi := { dst := some 90, op := _, type := _, pos := _, after := _, guard := _ }) (v := ?_) rfl (by kernel_rfl) (by kernel_rfl) (by kernel_rfl) (fun _ _ _ h => h) (Or.inl (Or.inl ⟨by rfl, ?_⟩)) hS ?_
        rotate_left
        focus ((intro w hSw; (try dsimp only at hSw); skip; go_simp); (try with_reducible rfl))
        intro wq hwq
        replace hS := hS.trans hwq
        (try simp only [Act.put, List.setIfInBounds_toArray, List.set_cons_zero, List.set_cons_succ])
        clear hwq
        refine wpAnyK_take Later.refl (fun _ _ _ h k => h.trans k) (fun _ _ h k => h.trans k) (i := 19) (oi := { dst := some 91, op := _, type := _, pos := _, after := _, guard := _ }) (v := ?_) rfl (by kernel_rfl) (by kernel_rfl) (by kernel_rfl) (fun _ _ _ h => h) (Or.inl (Or.inl ⟨by rfl, ?_⟩)) hS ?_
        rotate_left
        focus ((intro w hSw; (try dsimp only at hSw); have cr := HCR.out.later hSw; have cr := cr.out; go_simp); (try with_reducible rfl))
        intro wq hwq
        replace hS := hS.trans hwq
        (try simp only [Act.put, List.setIfInBounds_toArray, List.set_cons_zero, List.set_cons_succ])
        clear hwq
        refine wpAnyK_take Later.refl (fun _ _ _ h k => h.trans k) (fun _ _ h k => h.trans k) (i := 20) (oi := { dst := some 92, op := _, type := _, pos := _, after := _, guard := _ }) (v := .bool true) rfl (by kernel_rfl) (by kernel_rfl) (by kernel_rfl) (fun _ _ _ h => h) (Or.inr ⟨by rfl, 35, #[.slice za zl zc, .slice sa sl sc], fun W hW => ⟨?_, HF2.out W hW⟩⟩) hS ?_
        · first | rfl | (go_simp; done)
        intro wq hwq
        replace hS := hS.trans hwq
        (try simp only [Act.put, List.setIfInBounds_toArray, List.set_cons_zero, List.set_cons_succ])
        clear hwq
        refine wpAnyK_take Later.refl (fun _ _ _ h k => h.trans k) (fun _ _ h k => h.trans k) (i := 21) (oi := { dst := some 93, op := _, type := _, pos := _, after := _, guard := _ }) (v := ?_) rfl (by kernel_rfl) (by kernel_rfl) (by kernel_rfl) (fun _ _ _ h => h) (Or.inl (Or.inl ⟨by rfl, ?_⟩)) hS ?_
        rotate_left
        focus ((intro w hSw; (try dsimp only at hSw); skip; go_simp); (try with_reducible rfl))
        intro wq hwq
        replace hS := hS.trans hwq
        (try simp only [Act.put, List.setIfInBounds_toArray, List.set_cons_zero, List.set_cons_succ])
        clear hwq
        refine wpAnyK_take Later.refl (fun _ _ _ h k => h.trans k) (fun _ _ h k => h.trans k) (i := 22) (oi := { dst := some 94, op := _, type := _, pos := _, after := _, guard := _ }) (v := ?_) rfl (by kernel_rfl) (by kernel_rfl) (by kernel_rfl) (fun _ _ _ h => h) (Or.inl (Or.inl ⟨by rfl, ?_⟩)) hS ?_
        rotate_left
        focus ((intro w hSw; (try dsimp only at hSw); skip; go_simp); (try with_reducible rfl))
        intro wq hwq
        replace hS := hS.trans hwq
        (try simp only [Act.put, List.setIfInBounds_toArray, List.set_cons_zero, List.set_cons_succ])
        clear hwq
        refine wpAnyK_take Later.refl (fun _ _ _ h k => h.trans k) (fun _ _ h k => h.trans k) (i := 23) (oi := { dst := some 95, op := _, type := _, pos := _, after := _, guard := _ }) (v := ?_) rfl (by kernel_rfl) (by kernel_rfl) (by kernel_rfl) (fun _ _ _ h => h) (Or.inl (Or.inl ⟨by rfl, ?_⟩)) hS ?_
        rotate_left
        focus ((intro w hSw; (try dsimp only at hSw); skip; go_simp); (try with_reducible rfl))
        intro wq hwq
        replace hS := hS.trans hwq
        (try simp only [Act.put, List.setIfInBounds_toArray, List.set_cons_zero, List.set_cons_succ])
        clear hwq
        refine wpAnyK_done (by kernel_rfl) ?_ _
        go_wp2_with fail
        go_meet
        exact ⟨rfl, hS⟩
      · have HK6 := Lib.hid (show decide ((6 : Int) ≤ ch.kind) = false by simp; omega)
        clear h6
        refine wp_region_K (S := fun W : World => Later wr W) (R := Later) (fun _ => Later.refl _) (by kernel_rfl) ?_
        have hS : (fun W : World => Later wr W) wr.drew := (Later.refl wr).drew
        refine wpAnyK_take Later.refl (fun _ _ _ h k => h.trans k) (fun _ _ h k => h.trans k) (i := 0) (oi := { dst := some 72, op := _, type := _, pos := _, after := _, guard := _ }) (v := ?_) rfl (by kernel_rfl) (by kernel_rfl) (by kernel_rfl) (fun _ _ _ h => h) (Or.inl (Or.inl ⟨by rfl, ?_⟩)) hS ?_
        rotate_left
        focus ((intro w hSw; (try dsimp only at hSw); have c0 := (HB11.out.later hSw).cell 0 _ rfl; have c1 := (HB11.out.later hSw).cell 1 _ rfl; go_simp); (try with_reducible rfl))
        intro wq hwq
        replace hS := hS.trans hwq
        (try simp only [Act.put, List.setIfInBounds_toArray, List.set_cons_zero, List.set_cons_succ])
        clear hwq
        refine wpAnyK_take Later.refl (fun _ _ _ h k => h.trans k) (fun _ _ h k => h.trans k) (i := 1) (oi := { dst := some 73, op := _, type := _, pos := _, after := _, guard := _ }) (v := ?_) rfl (by kernel_rfl) (by kernel_rfl) (by kernel_rfl) (fun _ _ _ h => h) (Or.inl (Or.inl ⟨by rfl, ?_⟩)) hS ?_
        rotate_left
        focus ((intro w hSw; (try dsimp only at hSw); skip; go_simp); (try with_reducible rfl))
        intro wq hwq
        replace hS := hS.trans hwq
        (try simp only [Act.put, List.setIfInBounds_toArray, List.set_cons_zero, List.set_cons_succ])
        clear hwq
        refine wpAnyK_take Later.refl (fun _ _ _ h k => h.trans k) (fun _ _ h k => h.trans k) (i := 2) (oi := { dst := some 74, op := _, type := _, pos := _, after := _, guard := _ }) (v := ?_) rfl (by kernel_rfl) (by kernel_rfl) (by kernel_rfl) (fun _ _ _ h => h) (Or.inl (Or.inl ⟨by rfl, ?_⟩)) hS ?_
        rotate_left
        focus ((intro w hSw; (try dsimp only at hSw); skip; go_simp); (try with_reducible rfl))
        intro wq hwq
        replace hS := hS.trans hwq
        (try simp only [Act.put, List.setIfInBounds_toArray, List.set_cons_zero, List.set_cons_succ])
        clear hwq
        refine wpAnyK_take Later.refl (fun _ _ _ h k => h.trans k) (fun _ _ h k => h.trans k) (i := 3) (oi := { dst := some 75, op := _, type := _, pos := _, after := _, guard := _ }) (v := ?_) rfl (by kernel_rfl) (by kernel_rfl) (by kernel_rfl) (fun _ _ _ h => h) (Or.inl (Or.inl ⟨by rfl, ?_⟩)) hS ?_
        rotate_left
        focus ((intro w hSw; (try dsimp only at hSw); skip; go_simp); (try with_reducible rfl))
        intro wq hwq
        replace hS := hS.trans hwq
        (try simp only [Act.put, List.setIfInBounds_toArray, List.set_cons_zero, List.set_cons_succ])
        clear hwq
        refine wpAnyK_take Later.refl (fun _ _ _ h k => h.trans k) (fun _ _ h k => h.trans k) (i := 4) (oi := { dst := some 76, op := _, type := _, pos := _, after := _, guard := _ }) (v := ?_) rfl (by kernel_rfl) (by kernel_rfl) (by kernel_rfl) (fun _ _ _ h => h) (Or.inl (Or.inl ⟨by rfl, ?_⟩)) hS ?_
        rotate_left
        focus ((intro w hSw; (try dsimp only at hSw); have cx := HCX.out.later hSw; have cx := cx.out; go_simp); (try with_reducible rfl))
        intro wq hwq
        replace hS := hS.trans hwq
        (try simp only [Act.put, List.setIfInBounds_toArray, List.set_cons_zero, List.set_cons_succ])
        clear hwq
        refine wpAnyK_take Later.refl (fun _ _ _ h k => h.trans k) (fun _ _ h k => h.trans k) (i := 5) (oi := { dst := some 77, op := _, type := _, pos := _, after := _, guard := _ }) (v := .bool true) rfl (by kernel_rfl) (by kernel_rfl) (by kernel_rfl) (fun _ _ _ h => h) (Or.inr ⟨by rfl, 27, #[.agg #[.slice (some ⟨gv', 0, none⟩) s'.1.length c4, .int .i64 s'.2.1], .slice za zl zc], fun W hW => ⟨?_, HF1.out W hW⟩⟩) hS ?_
        · first | rfl | (go_simp; done)
        intro wq hwq
        replace hS := hS.trans hwq
        (try simp only [Act.put, List.setIfInBounds_toArray, List.set_cons_zero, List.set_cons_succ])
        clear hwq
        refine wpAnyK_take Later.refl (fun _ _ _ h k => h.trans k) (fun _ _ h k => h.trans k) (i := 6) (oi := { dst := some 78, op := _, type := _, pos := _, after := _, guard := _ }) (v := ?_) rfl (by kernel_rfl) (by kernel_rfl) (by kernel_rfl) (fun _ _ _ h => h) (Or.inl (Or.inl ⟨by rfl, ?_⟩)) hS ?_
        rotate_left
        focus ((intro w hSw; (try dsimp only at hSw); skip; go_simp); (try with_reducible rfl))
        intro wq hwq
        replace hS := hS.trans hwq
        (try simp only [Act.put, List.setIfInBounds_toArray, List.set_cons_zero, List.set_cons_succ])
        clear hwq
        refine wpAnyK_take Later.refl (fun _ _ _ h k => h.trans k) (fun _ _ h k => h.trans k) (i := 7) (oi := { dst := some 79, op := _, type := _, pos := _, after := _, guard := _ }) (v := ?_) rfl (by kernel_rfl) (by kernel_rfl) (by kernel_rfl) (fun _ _ _ h => h) (Or.inl (Or.inl ⟨by rfl, ?_⟩)) hS ?_
        rotate_left
        focus ((intro w hSw; (try dsimp only at hSw); skip; go_simp); (try with_reducible rfl))
        intro wq hwq
        replace hS := hS.trans hwq
        (try simp only [Act.put, List.setIfInBounds_toArray, List.set_cons_zero, List.set_cons_succ])
        clear hwq
        refine wpAnyK_take Later.refl (fun _ _ _ h k => h.trans k) (fun _ _ h k => h.trans k) (i := 8) (oi := { dst := some 80, op := _, type := _, pos := _, after := _, guard := _ }) (v := ?_) rfl (by kernel_rfl) (by kernel_rfl) (by kernel_rfl) (fun _ _ _ h => h) (Or.inl (Or.inl ⟨by rfl, ?_⟩)) hS ?_
        rotate_left
        focus ((intro w hSw; (try dsimp only at hSw); skip; go_simp); (try with_reducible rfl))
        intro wq hwq
        replace hS := hS.trans hwq
        (try simp only [Act.put, List.setIfInBounds_toArray, List.set_cons_zero, List.set_cons_succ])
        clear hwq
        refine wpAnyK_take Later.refl (fun _ _ _ h k => h.trans k) (fun _ _ h k => h.trans k) (i := 9) (oi := { dst := some 81, op := _, type := _, pos := _, after := _, guard := _ }) (v := ?_) rfl (by kernel_rfl) (by kernel_rfl) (by kernel_rfl) (fun _ _ _ h => h) (Or.inl (Or.inl ⟨by rfl, ?_⟩)) hS ?_
        rotate_left
        focus ((intro w hSw; (try dsimp only at hSw); have c0 := (HB9.out.later hSw).cell 0 _ rfl; go_simp); (try with_reducible rfl))
        intro wq hwq
        replace hS := hS.trans hwq
        (try simp only [Act.put, List.setIfInBounds_toArray, List.set_cons_zero, List.set_cons_succ])
        clear hwq
        refine wpAnyK_take Later.refl (fun _ _ _ h k => h.trans k) (fun _ _ h k => h.trans k) (i := 10) (oi := { dst := some 82, op := _, type := _, pos := _, after := _, guard := _ }) (v := ?_) rfl (by kernel_rfl) (by kernel_rfl) (by kernel_rfl) (fun _ _ _ h => h) (Or.inl (Or.inl ⟨by rfl, ?_⟩)) hS ?_
        rotate_left
        focus ((intro w hSw; (try dsimp only at hSw); have hk := HK6.out; go_simp); (try with_reducible rfl))
        intro wq hwq
        replace hS := hS.trans hwq
        (try simp only [Act.put, List.setIfInBounds_toArray, List.set_cons_zero, List.set_cons_succ])
        clear hwq
        refine wpAnyK_take Later.refl (fun _ _ _ h k => h.trans k) (fun _ _ h k => h.trans k) (i := 11) (oi := { dst := some 83, op := _, type := _, pos := _, after := _, guard := _ }) (v := ?_) rfl (by kernel_rfl) (by kernel_rfl) (by kernel_rfl) (fun _ _ _ h => h) (Or.inl (Or.inl ⟨by rfl, ?_⟩)) hS ?_
        rotate_left
        focus ((intro w hSw; (try dsimp only at hSw); skip; go_simp); (try with_reducible rfl))
        intro wq hwq
        replace hS := hS.trans hwq
        (try simp only [Act.put, List.setIfInBounds_toArray, List.set_cons_zero, List.set_cons_succ])
        clear hwq
        refine wpAnyK_take Later.refl (fun _ _ _ h k => h.trans k) (fun _ _ h k => h.trans k) (i := 12) (oi := { dst := some 84, op := _, type := _, pos := _, after := _, guard := _ }) (v := undef) rfl (by kernel_rfl) (by kernel_rfl) (by kernel_rfl) (fun _ _ _ h => h) (Or.inl (Or.inr ⟨by rfl, rfl⟩)) hS ?_
        intro wq hwq
        replace hS := hS.trans hwq
        (try simp only [Act.put, List.setIfInBounds_toArray, List.set_cons_zero, List.set_cons_succ])
        clear hwq
        refine wpAnyK_take Later.refl (fun _ _ _ h k => h.trans k) (fun _ _ h k => h.trans k) (i := 13) (oi := { dst := some 85, op := _, type := _, pos := _, after := _, guard := _ }) (v := undef) rfl (by kernel_rfl) (by kernel_rfl) (by kernel_rfl) (fun _ _ _ h => h) (Or.inl (Or.inr ⟨by rfl, rfl⟩)) hS ?_
        intro wq hwq
        replace hS := hS.trans hwq
        (try simp only [Act.put, List.setIfInBounds_toArray, List.set_cons_zero, List.set_cons_succ])
        clear hwq
        refine wpAnyK_take Later.refl (fun _ _ _ h k => h.trans k) (fun _ _ h k => h.trans k) (i := 14) (oi := { dst := some 86, op := _, type := _, pos := _, after := _, guard := _ }) (v := undef) rfl (by kernel_rfl) (by kernel_rfl) (by kernel_rfl) (fun _ _ _ h => h) (Or.inl (Or.inr ⟨by rfl, rfl⟩)) hS ?_
        intro wq hwq
        replace hS := hS.trans hwq
        (try simp only [Act.put, List.setIfInBounds_toArray, List.set_cons_zero, List.set_cons_succ])
        clear hwq
        refine wpAnyK_take Later.refl (fun _ _ _ h k => h.trans k) (fun _ _ h k => h.trans k) (i := 15) (oi := { dst := some 87, op := _, type := _, pos := _, after := _, guard := _ }) (v := undef) rfl (by kernel_rfl) (by kernel_rfl) (by kernel_rfl) (fun _ _ _ h => h) (Or.inl (Or.inr ⟨by rfl, rfl⟩)) hS ?_
        intro wq hwq
        replace hS := hS.trans hwq
        (try simp only [Act.put, List.setIfInBounds_toArray, List.set_cons_zero, List.set_cons_succ])
        clear hwq
        refine wpAnyK_take Later.refl (fun _ _ _ h k => h.trans k) (fun _ _ h k => h.trans k) (i := 16) (oi := { dst := some 88, op := _, type := _, pos := _, after := _, guard := _ }) (v := undef) rfl (by kernel_rfl) (by kernel_rfl) (by kernel_rfl) (fun _ _ _ h => h) (Or.inl (Or.inr ⟨by rfl, rfl⟩)) hS ?_
        intro wq hwq
        replace hS := hS.trans hwq
        (try simp only [Act.put, List.setIfInBounds_toArray, List.set_cons_zero, List.set_cons_succ])
        clear hwq
        refine wpAnyK_take Later.refl (fun _ _ _ h k => h.trans k) (fun _ _ h k => h.trans k) (i := 17) (oi := { dst := some 89, op := _, type := _, pos := _, after := _, guard := _ }) (v := undef) rfl (by kernel_rfl) (by kernel_rfl) (by kernel_rfl) (fun _ _ _ h => h) (Or.inl (Or.inr ⟨by rfl, rfl⟩)) hS ?_
        intro wq hwq
        replace hS := hS.trans hwq
        (try simp only [Act.put, List.setIfInBounds_toArray, List.set_cons_zero, List.set_cons_succ])
        clear hwq
        refine wpAnyK_take Later.refl (fun _ _ _ h k => h.trans k) (fun _ _ h k => h.trans k) (i := 18) (oi := { dst := some 90, op := _, type := _, pos := _, after := _, guard := _ }) (v := undef) rfl (by kernel_rfl) (by kernel_rfl) (by kernel_rfl) (fun _ _ _ h => h) (Or.inl (Or.inr ⟨by rfl, rfl⟩)) hS ?_
        intro wq hwq
        replace hS := hS.trans hwq
        (try simp only [Act.put, List.setIfInBounds_toArray, List.set_cons_zero, List.set_cons_succ])
        clear hwq
        refine wpAnyK_take Later.refl (fun _ _ _ h k => h.trans k) (fun _ _ h k => h.trans k) (i := 19) (oi := { dst := some 91, op := _, type := _, pos := _, after := _, guard := _ }) (v := undef) rfl (by kernel_rfl) (by kernel_rfl) (by kernel_rfl) (fun _ _ _ h => h) (Or.inl (Or.inr ⟨by rfl, rfl⟩)) hS ?_
        intro wq hwq
        replace hS := hS.trans hwq
        (try simp only [Act.put, List.setIfInBounds_toArray, List.set_cons_zero, List.set_cons_succ])
        clear hwq
        refine wpAnyK_take Later.refl (fun _ _ _ h k => h.trans k) (fun _ _ h k => h.trans k) (i := 20) (oi := { dst := some 92, op := _, type := _, pos := _, after := _, guard := _ }) (v := undef) rfl (by kernel_rfl) (by kernel_rfl) (by kernel_rfl) (fun _ _ _ h => h) (Or.inl (Or.inr ⟨by rfl, rfl⟩)) hS ?_
        intro wq hwq
        replace hS := hS.trans hwq
        (try simp only [Act.put, List.setIfInBounds_toArray, List.set_cons_zero, List.set_cons_succ])
        clear hwq
        refine wpAnyK_take Later.refl (fun _ _ _ h k => h.trans k) (fun _ _ h k => h.trans k) (i := 21) (oi := { dst := some 93, op := _, type := _, pos := _, after := _, guard := _ }) (v := undef) rfl (by kernel_rfl) (by kernel_rfl) (by kernel_rfl) (fun _ _ _ h => h) (Or.inl (Or.inr ⟨by rfl, rfl⟩)) hS ?_
        intro wq hwq
        replace hS := hS.trans hwq
        (try simp only [Act.put, List.setIfInBounds_toArray, List.set_cons_zero, List.set_cons_succ])
        clear hwq
        refine wpAnyK_take Later.refl (fun _ _ _ h k => h.trans k) (fun _ _ h k => h.trans k) (i := 22) (oi := { dst := some 94, op := _, type := _, pos := _, after := _, guard := _ }) (v := ?_) rfl (by kernel_rfl) (by kernel_rfl) (by kernel_rfl) (fun _ _ _ h => h) (Or.inl (Or.inl ⟨by rfl, ?_⟩)) hS ?_
        rotate_left
        focus ((intro w hSw; (try dsimp only at hSw); skip; go_simp); (try with_reducible rfl))
        intro wq hwq
        replace hS := hS.trans hwq
        (try simp only [Act.put, List.setIfInBounds_toArray, List.set_cons_zero, List.set_cons_succ])
        clear hwq
        refine wpAnyK_take Later.refl (fun _ _ _ h k => h.trans k) (fun _ _ h k => h.trans k) (i := 23) (oi := { dst := some 95, op := _, type := _, pos := _, after := _, guard := _ }) (v := ?_) rfl (by kernel_rfl) (by kernel_rfl) (by kernel_rfl) (fun _ _ _ h => h) (Or.inl (Or.inl ⟨by rfl, ?_⟩)) hS ?_
        rotate_left
        focus ((intro w hSw; (try dsimp only at hSw); skip; go_simp); (try with_reducible rfl))
        intro wq hwq
        replace hS := hS.trans hwq
        (try simp only [Act.put, List.setIfInBounds_toArray, List.set_cons_zero, List.set_cons_succ])
        clear hwq
        refine wpAnyK_done (by kernel_rfl) ?_ _
        go_wp2_with fail
        go_meet
        exact ⟨rfl, hS⟩
    case rest =>
    obtain ⟨rfl, lx⟩ := hcut
    have HLX := Lib.hid (HLT.out.trans lx)
    clear lx HF1 HF2 HCX HCR HB9 HB11 HLT
    go_wp2_with fail
    go_roundw
    case rel => exact ⟨k + 1, hlt, by go_num, HLX.out⟩
    case measure => simp [intOf]; omega
end Go.Proofs.YtklohbglkbhjhaaDoor
