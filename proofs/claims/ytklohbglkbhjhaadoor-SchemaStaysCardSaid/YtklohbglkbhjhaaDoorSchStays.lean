/- The walk of SchemaStays. (tools/gen_schstays.py) -/
import Derived.Test.YtklohbglkbhjhaaDoorStayA
import Derived.Deep.CutBlock
namespace Go.Proofs.YtklohbglkbhjhaaDoor
open Go.RowKit
set_option linter.unusedVariables false

set_option maxRecDepth 100000 in
set_option maxHeartbeats 8000000 in
theorem schemaStays_walk (A A2 : Option Addr) (n c n2 c2 : Nat) (bs ms : List Nat) (w : World) (f : Int → Addr) (hs : S15 w f) (h3 : S3 w) (hb : bs.length = n) (hn : n ≤ 60) (hr : Has w A (ints .u8 bs)) (h256 : ∀ x ∈ bs, x < 256) (hb2 : ms.length = n2) (hn2 : n2 ≤ 100) (hr2 : Has w A2 (ints .u8 ms)) (hm256 : ∀ x ∈ ms, x < 256) :
    Calls Tryd.prog 4 #[.slice A n c, .slice A2 n2 c2] w fun e w' => e = .returned (.bool true) ∧ Later w w' := by
  have HB := Lib.hid (begun15_any w f hs h3)
  have HS := Lib.hid hs
  have H3 := Lib.hid h3
  have HR := Lib.hid hr
  have HR2 := Lib.hid hr2
  have hc2 : PkC n2 ms := ⟨by omega, hb2, hm256⟩
  have HC2 := Lib.hid hc2
  have hc : PkC n bs := ⟨by omega, hb, h256⟩
  have HCC := Lib.hid hc
  clear hr h256 hb hs h3 hc hr2 hm256 hb2 hc2
  go_enter Tryd.func4, Tryd.ntmps4
  go_wp2_with fail
  refine HB.out.mono ?_
  rintro e w1 ⟨rfl, l1⟩
  have HL1 := Lib.hid l1
  have HR1 := Lib.hid (HR.out.later l1)
  obtain ⟨g, hg⟩ : ∃ g, w1.heap.size = g := ⟨_, rfl⟩
  clear l1 HB HR
  have hn60 : ((60 : Int) < (n : Int)) = False := by simp; omega
  have hn61 : ((100 : Int) < (n2 : Int)) = False := by simp; omega
  go_wp2_with (go_at_call 11; refine (made_any A n c _).mono ?_; rintro e w2 ⟨rfl, hw2⟩)
  have l2 : Later w1 w2 := hw2 ▸ Later.new _ _
  have HPK2 := Lib.hid (show Pks w2 g A n c bs from ⟨⟨0, Nat.zero_le _, hw2 ▸ Blk.new _ _ _ g hg.symm⟩, by
    have h := HR1.out
    rcases h with h | ⟨b, off, hA, hb, hcc⟩
    · exact .inl h
    · exact .inr ⟨b, off, hA, by omega, fun k v hv => l2.cell (hcc k v hv)⟩⟩)
  have HL2 := Lib.hid l2
  have HG0 := Lib.hid hg
  clear l2 hw2 HR1 hg hn60 hn61
  refine (schema_any g A n c bs w2 HCC.out HPK2.out).mono ?_
  rintro e w3 ⟨t0, m, ts, V, vc, es, E, ec, d0, d1, d2, rfl, ⟨hm, htl, ht0, hts⟩, ⟨hes, het, hlay⟩, rs⟩
  have HL3 := Lib.hid (show Later w w3 from HL1.out.trans (rs.far.out HG0.out.symm HL2.out))
  obtain ⟨gv, rfl⟩ := own_some rs.oV (by omega)
  obtain ⟨ge, rfl⟩ := own_some rs.oE (by omega)
  have hcl : (playCols t0 m ts).length = m + 2 := by rw [playCols_len, htl]
  have HMAY := Lib.hid (play_may t0 m ts hm htl ht0 hts).1
  have HLAY := Lib.hid (play_lay t0 m ts hm htl d0 d1 d2 es hes het hlay)
  have OV3 := Lib.hid (show w3.ownsRow w.heap.size 59 3 (.slice (some ⟨gv, 0, none⟩) (m + 2) vc) (m + 2) (fc (playCols t0 m ts)) from own_weak rs.oV (Nat.le_trans HL1.out.size HL2.out.size))
  have OE3 := Lib.hid (show w3.ownsRow w.heap.size 3 1 (.slice (some ⟨ge, 0, none⟩) (m + 2) ec) (m + 2) (ein es) from own_weak rs.oE (Nat.le_trans HL1.out.size HL2.out.size))
  clear rs HPK2 HCC HL2 HG0 hts het hlay ht0 htl
  generalize playCols t0 m ts = cols at hcl HMAY HLAY OV3
  obtain ⟨vn, hvn⟩ : ∃ x, m + 2 = x := ⟨_, rfl⟩
  rw [hvn] at hcl hes HMAY OV3 OE3 ⊢
  clear hvn hm
  obtain ⟨gs, hgs⟩ : ∃ x, w3.heap.size = x := ⟨_, rfl⟩
  obtain ⟨w4, hw4⟩ : ∃ x : World, (w3.alloc (.cells #[.slice (some ⟨gv, 0, none⟩) vn vc, .int .i64 (vn : Int)] 24)).alloc (.cells #[.int .i64 d0, .int .i64 d1, .int .i64 d2, .slice (some ⟨ge, 0, none⟩) vn ec] 27) = x := ⟨_, rfl⟩
  have l4 : Later w3 w4 := hw4 ▸ (Later.new _ _).alloc _
  obtain ⟨gp, hgp⟩ : ∃ x, w4.heap.size = x := ⟨_, rfl⟩
  obtain ⟨w5, hw5⟩ : ∃ x : World, w4.alloc (.cells #[.slice A2 n2 c2, .int .i64 0] 71) = x := ⟨_, rfl⟩
  have l5 : Later w4 w5 := hw5 ▸ Later.new _ _
  have hMD : Calls Tryd.prog 11 #[.slice A2 n2 c2] w4 (fun e w' => e = .returned (.pointer (some ⟨gp, 0, none⟩)) ∧ w5 = w') := hgp ▸ hw5 ▸ made_any A2 n2 c2 w4
  have HMD := Lib.hid hMD
  have HR0 := Lib.hid (show StR w gs (gs + 1) gp A2 n2 c2 (.int .i64 0) w5 from by
    refine StR.mk 0 0 (cols, (vn : Int), ⟨d0, d1, d2, es⟩) gv vc ge ec rfl (by omega) HMAY.out HLAY.out ?_ ((HL3.out.trans l4).trans l5)
    refine ⟨?_, ?_, ?_, ?_, ⟨0, Nat.zero_le _, hw5 ▸ Blk.new _ _ _ _ hgp.symm⟩, ?_⟩
    · show Blk w5 gs #[.slice (some ⟨gv, 0, none⟩) cols.length vc, .int .i64 (vn : Int)] 24
      rw [hcl]
      exact Blk.later (hw4 ▸ (Blk.new w3 _ _ gs hgs.symm).later (Later.new _ _)) l5
    · show Blk w5 (gs + 1) #[.int .i64 d0, .int .i64 d1, .int .i64 d2, .slice (some ⟨ge, 0, none⟩) es.length ec] 27
      rw [hes]
      exact Blk.later (hw4 ▸ Blk.new _ _ _ _ (by simp; omega)) l5
    · show w5.ownsRow w.heap.size 59 3 (.slice (some ⟨gv, 0, none⟩) cols.length vc) cols.length (fc cols)
      rw [hcl]; exact own_later OV3.out (l4.trans l5)
    · show w5.ownsRow w.heap.size 3 1 (.slice (some ⟨ge, 0, none⟩) es.length ec) es.length (ein es)
      rw [hes]; exact own_later OE3.out (l4.trans l5)
    · have h1 := HL3.out.size
      have h2 := l4.size
      omega)
  have HW4 := Lib.hid hw4
  clear hMD hw4 hw5 l4 l5 OV3 OE3 HL3 HMAY HLAY hgp
  go_upto_region 6 with fail
  rw [HW4.out]
  clear HW4 hgs hcl hes
  go_wp2_with fail
  refine HMD.out.mono ?_
  rintro e w6 ⟨rfl, rfl⟩
  clear HMD
  go_wp2_with fail
  go_loopw [8] (fun iv wr => StR w gs (gs + 1) gp A2 n2 c2 iv wr) (fun i _ => 12 - (intOf i).toNat)
  case atStart => exact HR0.out
  case round =>
    obtain ⟨i, s, gv, vc, ge, ec, rfl, hi12, hmq, hlq, hst, lat⟩ := hrel
    have HMQ := Lib.hid hmq
    have HLQ := Lib.hid hlq
    have HST := Lib.hid hst
    have HLT := Lib.hid lat
    clear hmq hlq hst lat HR0
    by_cases hlt : i < 12
    rotate_left
    · have hii : ¬ (i : Int) < 12 := by omega
      go_wp2_with fail
      go_ret
      exact ⟨rfl, HLT.out⟩
    have hii : (i : Int) < 12 := by omega
    obtain ⟨kp, hkp, hpk⟩ := HST.out.pk
    have HOV := Lib.hid (over_any gp A2 n2 c2 kp wr hpk (by omega) hkp)
    clear hkp hpk
    go_wp2_with fail
    refine HOV.out.mono ?_
    rintro e w7 ⟨rfl, l7⟩
    have HST := Lib.hid (HST.out.later l7)
    have HLT := Lib.hid (HLT.out.trans l7)
    clear HOV l7
    generalize decide (n2 ≤ kp) = ob
    rcases ob with _ | _
    rotate_left
    · go_wp2_with fail
      go_ret
      exact ⟨rfl, HLT.out⟩
    have HVL := Lib.hid (show 1 ≤ s.1.length ∧ s.1.length ≤ 1000 from by have := HMQ.out.len; omega)
    have HEL := Lib.hid (show s.2.2.enc.length ≤ 1000 from by have := HLQ.out.len; have := HMQ.out.len; omega)
    have HRD := Lib.hid (show Rd w7 w.heap.size A2 (ints .u8 ms) from by
      rcases HR2.out with h | ⟨b, off, hA, hb, hc⟩
      · exact .inl h
      · exact .inr ⟨b, off, hA, hb, fun k v hv => HLT.out.cell (hc k v hv)⟩)
    have HCH := Lib.hid (change_play gp A2 n2 c2 ms (some ⟨gv, 0, none⟩) s.1.length vc s.2.1 s.1 w7 HC2.out (HST.out.pks HRD.out) rfl HVL.out (HasX.mk4 (Has.ownG HST.out.ov) HST.out.nes.2.2.1))
    have s0 := HST.out.bs.cell 0 _ rfl
    have s1 := HST.out.bs.cell 1 _ rfl
    go_wp2_with fail
    refine HCH.out.mono ?_
    rintro e w8 ⟨ch, rfl, hcn, hp8, hf8⟩
    have HST := Lib.hid (HST.out.far hf8 hp8)
    have HLT := Lib.hid (far_later HLT.out hf8 HST.out.hb.2.2)
    have HCN := Lib.hid hcn
    clear HCH hcn hp8 hf8 s0 s1 HRD
    obtain ⟨g9, hg9⟩ : ∃ x, w8.heap.size = x := ⟨_, rfl⟩
    obtain ⟨w9, hw9⟩ : ∃ x, w8.alloc (.cells #[.int .i64 ch.kind, .int .i64 ch.col, .string ch.name, .int .i64 ch.typ, .int .i64 ch.val.1, .int .i64 ch.val.2.1, .string ch.val.2.2, .int .u8 ch.sep, .int .i64 ch.num] 31) = x := ⟨_, rfl⟩
    have l9 : Later w8 w9 := hw9 ▸ Later.new _ _
    have HB9 := Lib.hid (show Blk w9 g9 #[.int .i64 ch.kind, .int .i64 ch.col, .string ch.name, .int .i64 ch.typ, .int .i64 ch.val.1, .int .i64 ch.val.2.1, .string ch.val.2.2, .int .u8 ch.sep, .int .i64 ch.num] 31 from hw9 ▸ Blk.new _ _ _ _ hg9.symm)
    have HST := Lib.hid (HST.out.later l9)
    have HLT := Lib.hid (HLT.out.trans l9)
    have HW9 := Lib.hid hw9
    clear hw9 l9
    unfold cvP
    go_upto_region 11 with fail
    rw [HW9.out]
    clear HW9 hg9
    have s0 : w9.cell? ⟨gs, 0, none⟩ = some (.slice (some ⟨gv, 0, none⟩) s.1.length vc) := HST.out.bs.cell 0 _ rfl
    have s1 : w9.cell? ⟨gs, 1, none⟩ = some (.int .i64 s.2.1) := HST.out.bs.cell 1 _ rfl
    have r0 : w9.cell? ⟨gs + 1, 0, none⟩ = some (.int .i64 s.2.2.sb) := HST.out.bl.cell 0 _ rfl
    have r1 : w9.cell? ⟨gs + 1, 1, none⟩ = some (.int .i64 s.2.2.pb) := HST.out.bl.cell 1 _ rfl
    have r2 : w9.cell? ⟨gs + 1, 2, none⟩ = some (.int .i64 s.2.2.parts) := HST.out.bl.cell 2 _ rfl
    have r3 : w9.cell? ⟨gs + 1, 3, none⟩ = some (.slice (some ⟨ge, 0, none⟩) s.2.2.enc.length ec) := HST.out.bl.cell 3 _ rfl
    have q0 := HB9.out.cell 0 _ rfl
    have q1 := HB9.out.cell 1 _ rfl
    have q2 := HB9.out.cell 2 _ rfl
    have q3 := HB9.out.cell 3 _ rfl
    have q4 := HB9.out.cell 4 _ rfl
    have q5 := HB9.out.cell 5 _ rfl
    have q6 := HB9.out.cell 6 _ rfl
    have q7 := HB9.out.cell 7 _ rfl
    have q8 := HB9.out.cell 8 _ rfl
    have HAP := Lib.hid (show Calls Tryd.prog 14 #[.agg #[.slice (some ⟨gv, 0, none⟩) s.1.length vc, .int .i64 s.2.1], .agg #[.int .i64 s.2.2.sb, .int .i64 s.2.2.pb, .int .i64 s.2.2.parts, .slice (some ⟨ge, 0, none⟩) s.2.2.enc.length ec], .agg #[.int .i64 ch.kind, .int .i64 ch.col, .string ch.name, .int .i64 ch.typ, .int .i64 ch.val.1, .int .i64 ch.val.2.1, .string ch.val.2.2, .int .u8 ch.sep, .int .i64 ch.num]] w9 (ApP s ch w9) from schApply_any (some ⟨gv, 0, none⟩) (some ⟨ge, 0, none⟩) vc ec s ch w9 f (HS.out.later HLT.out) (H3.out.later HLT.out) (Has.ownG HST.out.ov) (Has.ownG HST.out.oe) HVL.out.2 HEL.out HMQ.out.small HCN.out (fun h => by cases h) (fun h => by cases h))
    go_cut [10, 11, 12] from 47 to 54 (fun pv qv ev wx => ResP s ch w9 pv qv ev wx)
    case first =>
      go_wp2_with (go_at_call 14; refine HAP.out.mono ?_; rintro e w11 hap; obtain ⟨A4, n4, c4, last4, sb4, pb4, parts4, E4, en4, ec4, ev4, rfl, hv4, l4⟩ := hap.v (Nat.le_refl _))
      go_meet
      obtain ⟨g11, hg11⟩ : ∃ x, w11.heap.size = x := ⟨_, rfl⟩
      refine ⟨g11, g11 + 1, A4, n4, c4, last4, sb4, pb4, parts4, E4, en4, ec4, ev4, ?_, ?_, rfl, hv4.later ((Later.new _ _).alloc _), (Blk.new _ _ _ _ hg11.symm).later (Later.new _ _), Blk.new _ _ _ _ (by simp; omega), by omega, by have := l4.size; omega, by have := l4.size; omega, l4.trans ((Later.new _ _).alloc _)⟩
      · rw [hg11]
      · rw [hg11]
    case rest =>
    obtain ⟨g11, g12, A4, n4, c4, last4, sb4, pb4, parts4, E4, en4, ec4, ev4, rfl, rfl, rfl, hv4, hb11, hb12, hne, hg11, hg12, l4⟩ := hcut
    have hq1 := l4.cell q1
    clear HAP s0 s1 r0 r1 r2 r3 q0 q1 q2 q3 q4 q5 q6 q7 q8
    rcases hv4 with ⟨k, hk, hkm, rfl, rfl, rfl, rfl, rfl, rfl, rfl, rfl, rfl, rfl, rfl⟩ | ⟨s', gv', ge', hs', rfl, rfl, hn4, hla4, hsb4, hpb4, hpa4, rfl, hen4, o41, o42, -⟩
    · have hk0 : (ev4 != 0) = true := by
        simp only [List.mem_cons, List.not_mem_nil, or_false] at hkm
        simp; omega
      have HL4 := Lib.hid l4
      have e0 := hb11.cell 0 _ rfl
      have e1 := hb11.cell 1 _ rfl
      have d0 := hb12.cell 0 _ rfl
      have d1 := hb12.cell 1 _ rfl
      have d2 := hb12.cell 2 _ rfl
      have d3 := hb12.cell 3 _ rfl
      clear l4 hb11 hb12 hk hkm hq1
      go_wp2_with fail
      go_roundw
      case rel => exact StR.mk _ (i + 1) s gv vc ge ec (by go_num) (by omega) HMQ.out HLQ.out (HST.out.later HL4.out) (HLT.out.trans HL4.out)
      case measure => simp [intOf]; omega
    subst hn4 hla4 hsb4 hpb4 hpa4 hen4
    have HKP := Lib.hid (keep_any HMQ.out HLQ.out (applyM_ok hs').2)
    have HMB := Lib.hid ((mayS_iff.2 HKP.out.may : MayS s'.1 s'.2.1))
    have HLB := Lib.hid ((mayLy_iff.2 HKP.out.lay : MayLy s'.1 s'.2.2))
    have HST4 := Lib.hid (HST.out.later l4)
    have HLT4 := Lib.hid (HLT.out.trans l4)
    have HB11 := Lib.hid hb11
    have HB12 := Lib.hid hb12
    have hwB := HLT.out.size
    have O41 := Lib.hid (own_weak o41 hwB)
    have O42 := Lib.hid (own_weak o42 hwB)
    have HGN := Lib.hid (show g11 ≠ gs ∧ g12 ≠ gs + 1 from ⟨by have := HST.out.bs.lt; omega, by have := HST.out.bl.lt; omega⟩)
    have HQ1 := Lib.hid (show CellIs wc ⟨g9, 1, none⟩ (.int .i64 ch.col) from hq1)
    have HVL4 := Lib.hid (show (1 ≤ s'.1.length ∧ s'.1.length ≤ 6) ∧ s'.2.2.enc.length ≤ 1000 from by have h1 := HKP.out.lay.len; have h2 := HKP.out.may.len; exact ⟨h2, by omega⟩)
    have HLAST := Lib.hid (show 1 ≤ s.2.1 ∧ s.2.1 ≤ 10000 from ⟨by
      have h0 : 0 < s.1.length := by have := HMQ.out.len; omega
      have := (HMQ.out.col _ (List.getElem_mem h0)).1
      omega, HMQ.out.last⟩)
    clear l4 hb11 hb12 o41 o42 HST hwB hne hg11 hg12 hs' hq1 HLT HB9 HCN HVL HEL
    have HM1 := Lib.hid (schMay_any (some ⟨gv', 0, none⟩) s'.1.length c4 s'.2.1 s'.1 wc rfl (by have := HVL4.out; omega) (Has.ownG O41.out) HKP.out.may.small)
    have e0 := HB11.out.cell 0 _ rfl
    have e1 := HB11.out.cell 1 _ rfl
    go_wp2_with fail
    refine HM1.out.mono ?_
    rintro e wa ht
    obtain ⟨rfl, la⟩ := ht.yes HMB.out
    have Lwa := Lib.hid (show Later wc wa from la)
    clear ht la HM1 e0 e1
    have HM2 := Lib.hid (show Calls Tryd.prog 20 #[.agg #[.slice (some ⟨gv', 0, none⟩) s'.1.length c4, .int .i64 s'.2.1], .agg #[.int .i64 s'.2.2.sb, .int .i64 s'.2.2.pb, .int .i64 s'.2.2.parts, .slice (some ⟨ge', 0, none⟩) s'.2.2.enc.length ec4]] wa (TellsP (MayLy s'.1 s'.2.2) wa) from mayLayout_any (some ⟨gv', 0, none⟩) (some ⟨ge', 0, none⟩) s'.1.length c4 s'.2.2.enc.length ec4 s'.2.1 s'.1 s'.2.2 wa rfl rfl (by have := HVL4.out; omega) (by have := HVL4.out; omega) ((Has.ownG O41.out).later Lwa.out) ((Has.ownG O42.out).later Lwa.out))
    have e0 := (HB11.out.later Lwa.out).cell 0 _ rfl
    have e1 := (HB11.out.later Lwa.out).cell 1 _ rfl
    have d0 := (HB12.out.later Lwa.out).cell 0 _ rfl
    have d1 := (HB12.out.later Lwa.out).cell 1 _ rfl
    have d2 := (HB12.out.later Lwa.out).cell 2 _ rfl
    have d3 := (HB12.out.later Lwa.out).cell 3 _ rfl
    go_wp2_with fail
    refine HM2.out.mono ?_
    rintro e wb ht
    obtain ⟨rfl, la⟩ := ht.yes HLB.out
    have Lwb := Lib.hid (show Later wc wb from Lwa.out.trans la)
    clear ht la HM2 e0 e1 d0 d1 d2 d3
    have HM3 := Lib.hid (refMay_any (some ⟨gv', 0, none⟩) s'.1.length c4 s'.2.1 s'.1 wb rfl (by have := HVL4.out; omega) ((Has.ownG O41.out).later Lwb.out) HKP.out.may.small)
    have e0 := (HB11.out.later Lwb.out).cell 0 _ rfl
    have e1 := (HB11.out.later Lwb.out).cell 1 _ rfl
    go_wp2_with fail
    refine HM3.out.mono ?_
    rintro e wd ht
    obtain ⟨rfl, la⟩ := ht.yes HMB.out
    have Lwd := Lib.hid (show Later wc wd from Lwb.out.trans la)
    clear ht la HM3 e0 e1
    have HM4 := Lib.hid (show Calls Tryd.prog 21 #[.agg #[.slice (some ⟨gv', 0, none⟩) s'.1.length c4, .int .i64 s'.2.1], .agg #[.int .i64 s'.2.2.sb, .int .i64 s'.2.2.pb, .int .i64 s'.2.2.parts, .slice (some ⟨ge', 0, none⟩) s'.2.2.enc.length ec4]] wd (TellsP (MayLy s'.1 s'.2.2) wd) from refMayLayout_any (some ⟨gv', 0, none⟩) (some ⟨ge', 0, none⟩) s'.1.length c4 s'.2.2.enc.length ec4 s'.2.1 s'.1 s'.2.2 wd rfl rfl (by have := HVL4.out; omega) (by have := HVL4.out; omega) ((Has.ownG O41.out).later Lwd.out) ((Has.ownG O42.out).later Lwd.out))
    have e0 := (HB11.out.later Lwd.out).cell 0 _ rfl
    have e1 := (HB11.out.later Lwd.out).cell 1 _ rfl
    have d0 := (HB12.out.later Lwd.out).cell 0 _ rfl
    have d1 := (HB12.out.later Lwd.out).cell 1 _ rfl
    have d2 := (HB12.out.later Lwd.out).cell 2 _ rfl
    have d3 := (HB12.out.later Lwd.out).cell 3 _ rfl
    go_wp2_with fail
    refine HM4.out.mono ?_
    rintro e we ht
    obtain ⟨rfl, la⟩ := ht.yes HLB.out
    have Lwe := Lib.hid (show Later wc we from Lwd.out.trans la)
    clear ht la HM4 e0 e1 d0 d1 d2 d3
    clear Lwa Lwb Lwd
    have HST5 := Lib.hid (HST4.out.later Lwe.out)
    have HLT5 := Lib.hid (HLT4.out.trans Lwe.out)
    have HC11 := Lib.hid (HB11.out.later Lwe.out)
    have HC12 := Lib.hid (HB12.out.later Lwe.out)
    have P41 := Lib.hid (own_later O41.out Lwe.out)
    have P42 := Lib.hid (own_later O42.out Lwe.out)
    have HQ2 := Lib.hid (HQ1.out.later Lwe.out)
    clear HST4 HLT4 HB11 HB12 O41 O42 HQ1 Lwe
    have e1 := HC11.out.cell 1 _ rfl
    have s1 := HST5.out.bs.cell 1 _ rfl
    have hlo : ¬ s'.2.1 < s.2.1 := by have := HKP.out.last; omega
    have hhi : ¬ s.2.1 + 1 < s'.2.1 := by have := HKP.out.last; omega
    have hw1 : IntKind.i64.wrap (s.2.1 + 1) = s.2.1 + 1 := IntWalk.i64_in _ ⟨by have := HLAST.out; omega, by have := HLAST.out; omega⟩
    go_wp2_with fail
    clear e1 s1 hlo hhi
    go_loopw [13] (fun kv wq => ∃ k : Nat, k ≤ s'.1.length ∧ kv = .int .i64 k ∧ Later we wq) (fun kv _ => s'.1.length - (intOf kv).toNat)
    case atStart => exact ⟨0, Nat.zero_le _, rfl, Later.refl _⟩
    case round =>
      obtain ⟨k, hk, rfl, la⟩ := hrel
      have HLA := Lib.hid la
      have hk6 : k ≤ 6 := by have := HVL4.out; omega
      have e0 := (HC11.out.later la).cell 0 _ rfl
      clear la
      by_cases hkl : k < s'.1.length
      · have HKC := Lib.hid (HKP.out.col HMQ.out (List.getElem_mem hkl))
        obtain ⟨b, o, hA1, c0, c1, c2⟩ := (Has.ownG (own_later P41.out HLA.out)).col3 k hkl
        injection hA1 with hA1
        injection hA1 with x1 x2
        subst x1 x2
        generalize s'.1[k] = x at c0 c1 c2 HKC
        obtain ⟨xi, xs, xt⟩ := x
        dsimp only at c0 c1 c2
        rw [Nat.zero_add] at c0 c1 c2
        have hki : (k : Int) < (s'.1.length : Int) := by omega
        obtain ⟨gx, hgx⟩ : ∃ x, wr.heap.size = x := ⟨_, rfl⟩
        obtain ⟨wx, hwx⟩ : ∃ x, wr.alloc (.cells #[.int .i64 xi, .string xs, .int .i64 xt] 59) = x := ⟨_, rfl⟩
        have lx : Later wr wx := hwx ▸ Later.new _ _
        have HBX := Lib.hid (show Blk wx gx #[.int .i64 xi, .string xs, .int .i64 xt] 59 from hwx ▸ Blk.new _ _ _ _ hgx.symm)
        have HLX := Lib.hid (HLA.out.trans lx)
        have HWX := Lib.hid hwx
        clear hwx lx
        go_upto_region 21 with fail
        rw [HWX.out]
        clear HWX c0 c1 c2 e0 hgx
        have x0 := HBX.out.cell 0 _ rfl
        have s0 := (HST5.out.bs.later HLX.out).cell 0 _ rfl
        have s1 := (HST5.out.bs.later HLX.out).cell 1 _ rfl
        have HBI := Lib.hid (byID_any (some ⟨gv, 0, none⟩) s.1.length vc s.2.1 s.1 xi wx rfl (by have := HMQ.out.len; omega) (Has.ownG (own_later HST5.out.ov HLX.out)))
        go_wp2_with fail
        refine HBI.out.mono ?_
        rintro e wy ⟨rfl, ly⟩
        have HLY := Lib.hid (HLX.out.trans ly)
        have y0 := (HBX.out.later ly).cell 0 _ rfl
        have y1 := (HBX.out.later ly).cell 1 _ rfl
        have y2 := (HBX.out.later ly).cell 2 _ rfl
        have z0 := (HST5.out.bs.later HLY.out).cell 0 _ rfl
        have z1 := (HST5.out.bs.later HLY.out).cell 1 _ rfl
        have cq := (HQ2.out.later HLY.out).out
        clear HBI ly x0 s0 s1 HBX
        have hnil : ¬ s.1 = [] := by have h0 := HMQ.out.len; intro e; rw [e] at h0; simp at h0
        rcases hf : findI s.1 xi with _ | j
        · have hne : (xi != s.2.1 + 1) = false := by simp [HKC.out.1 hf]
          simp only [Option.getD_none, Option.isSome_none]
          clear hf
          go_wp2_with fail
          go_quiet (fail)
          go_wp2_with fail
          go_roundw
          case rel => exact ⟨k + 1, hkl, by go_num, HLY.out.drewN _⟩
          case measure => simp [intOf]; omega
        · obtain ⟨hj, hji⟩ := findI_lt hf
          have hjl : (j : Int) < (s.1.length : Int) := Int.ofNat_lt.2 hj
          have hjl2 : ¬ (s.1.length : Int) ≤ (j : Int) := Int.not_le.2 hjl
          have HCC := Lib.hid (HKC.out.2 j hj hf)
          simp only [Option.getD_some, Option.isSome_some]
          obtain ⟨b2, o2, hA2, c0, c1, c2⟩ := (Has.ownG (own_later HST5.out.ov HLY.out)).col3 j hj
          injection hA2 with hA2
          injection hA2 with x1 x2
          subst x1 x2
          rw [Nat.zero_add] at c0 c1 c2
          generalize s.1[j] = yv at c0 c1 c2 HCC
          obtain ⟨yi, ys, yt⟩ := yv
          dsimp only at c0 c1 c2
          clear hf hji
          by_cases hxe : ((xi, xs, xt) : Col3) = (yi, ys, yt)
          · have hcmp := fun w => neq_col w xi yi xt yt xs ys false (by simpa using hxe)
            clear hxe
            go_wp2_with fail
            go_quiet (fail)
            go_wp2_with fail
            go_roundw
            case rel => exact ⟨k + 1, hkl, by go_num, HLY.out.drewN _⟩
            case measure => simp [intOf]; omega
          · have hcmp := fun w => neq_col w xi yi xt yt xs ys true (decide_eq_true hxe)
            have hxc : (xi != ch.col) = false := by
              rcases HCC.out with h | h
              · exact absurd h hxe
              · have h : xi = ch.col := h
                simp [h]
            clear hxe
            go_wp2_with fail
            go_quiet (fail)
            go_wp2_with fail
            go_roundw
            case rel => exact ⟨k + 1, hkl, by go_num, HLY.out.drewN _⟩
            case measure => simp [intOf]; omega
      · have HST6 := Lib.hid (HST5.out.later HLA.out)
        have HD11 := Lib.hid (HC11.out.later HLA.out)
        have HD12 := Lib.hid (HC12.out.later HLA.out)
        have R41 := Lib.hid (own_later P41.out HLA.out)
        have R42 := Lib.hid (own_later P42.out HLA.out)
        have HLT6 := Lib.hid (HLT5.out.trans HLA.out)
        have hgn1 := HGN.out.1
        have hgn2 := HGN.out.2
        clear HST5 HC11 HC12 P41 P42 HLT5 HQ2
        have hki : ¬ (k : Int) < (s'.1.length : Int) := by omega
        go_upto_region 26 with fail
        clear hki e0
        refine wp_region_K (S := (fun W : World => Blk W g11 #[.slice (some ⟨gv', 0, none⟩) s'.1.length c4, .int .i64 s'.2.1] 24 ∧ Blk W g12 #[.int .i64 s'.2.2.sb, .int .i64 s'.2.2.pb, .int .i64 s'.2.2.parts, .slice (some ⟨ge', 0, none⟩) s'.2.2.enc.length ec4] 27)) (R := fun a b => a = b) (fun _ => rfl) (by kernel_rfl) ?_
        obtain ⟨y0, hy0⟩ : ∃ x, wr.drew = x := ⟨_, rfl⟩
        have l0 : Later wr y0 := hy0 ▸ (Later.refl wr).drew
        have hS : (fun W : World => Blk W g11 #[.slice (some ⟨gv', 0, none⟩) s'.1.length c4, .int .i64 s'.2.1] 24 ∧ Blk W g12 #[.int .i64 s'.2.2.sb, .int .i64 s'.2.2.pb, .int .i64 s'.2.2.parts, .slice (some ⟨ge', 0, none⟩) s'.2.2.enc.length ec4] 27) y0 := ⟨HD11.out.later l0, HD12.out.later l0⟩
        rw [hy0]
        have HA6 := Lib.hid (HST6.out.later l0)
        have HO1 := Lib.hid (own_later R41.out l0)
        have HO2 := Lib.hid (own_later R42.out l0)
        have HL6 := Lib.hid (HLT6.out.trans l0)
        clear hy0 l0
        refine wpAnyK_take (fun _ => rfl) (fun _ _ _ h k => h.trans k) (fun _ _ h k => k ▸ h) (i := 0) (oi := { dst := some 166, op := _, type := _, pos := _, after := _, guard := _ }) (v := ?_) rfl (by kernel_rfl) (by kernel_rfl) (by kernel_rfl) (fun _ _ _ h => h) (Or.inl (Or.inl ⟨by rfl, ?_⟩)) hS ?_
        rotate_left
        focus ((intro w hSw; (try dsimp only at hSw); have e0 := hSw.1.cell 0 _ rfl; have e1 := hSw.1.cell 1 _ rfl; go_simp); (try with_reducible rfl))
        intro wq hwq
        subst hwq
        (try simp only [Act.put, List.setIfInBounds_toArray, List.set_cons_zero, List.set_cons_succ])
        refine wpAnyK_take (fun _ => rfl) (fun _ _ _ h k => h.trans k) (fun _ _ h k => k ▸ h) (i := 1) (oi := { dst := some 167, op := _, type := _, pos := _, after := _, guard := _ }) (v := ?_) rfl (by kernel_rfl) (by kernel_rfl) (by kernel_rfl) (fun _ _ _ h => h) (Or.inl (Or.inl ⟨by rfl, ?_⟩)) hS ?_
        rotate_left
        focus ((intro w hSw; (try dsimp only at hSw); have e0 := hSw.2.cell 0 _ rfl; have e1 := hSw.2.cell 1 _ rfl; have e2 := hSw.2.cell 2 _ rfl; have e3 := hSw.2.cell 3 _ rfl; go_simp); (try with_reducible rfl))
        intro wq hwq
        subst hwq
        (try simp only [Act.put, List.setIfInBounds_toArray, List.set_cons_zero, List.set_cons_succ])
        refine wpAnyK_all (rs := [2]) (by kernel_rfl) (by simp) (fun i hi => ?_)
        simp only [List.mem_cons, List.not_mem_nil, or_false] at hi
        subst hi
        refine stepK (o := ⟨none, _, _, _, _, _⟩) rfl (fun K hK => ?_)
        (try rw [if_pos (by rfl)])
        refine wp_store_mid 24 _ _ rfl gs 0 #[.slice (some ⟨gv', 0, none⟩) s'.1.length c4, .int .i64 s'.2.1] rfl rfl (fun j hj => by rw [Nat.zero_add]; have hj2 : j < 2 := hj; exact ⟨by rw [cell_of_row y0 gs j _ _ _ HA6.out.bs, Array.getElem?_eq_getElem (by exact hj2)]; rfl, HA6.out.bs.frozen j⟩) (by kernel_rfl) (by simp [Value.oneCell']) ?_
        have hS2 : (fun W : World => Blk W g11 #[.slice (some ⟨gv', 0, none⟩) s'.1.length c4, .int .i64 s'.2.1] 24 ∧ Blk W g12 #[.int .i64 s'.2.2.sb, .int .i64 s'.2.2.pb, .int .i64 s'.2.2.parts, .slice (some ⟨ge', 0, none⟩) s'.2.2.enc.length ec4] 27) (y0.setCells gs 0 (tA s' gv' c4)) := ⟨hS.1.aside hgn1 0 _, hS.2.aside (ne_typ hS.2 HA6.out.bs (by decide)) 0 _⟩
        have hbl2 := HA6.out.bl.aside (ne_typ HA6.out.bl HA6.out.bs (by decide)) 0 (tA s' gv' c4)
        refine hK _ _ hS2 fun wq hwq => ?_
        obtain ⟨y1, hy1⟩ : ∃ x, y0.setCells gs 0 (tA s' gv' c4) = x := ⟨_, rfl⟩
        have hy2 : y1 = wq := hy1.symm.trans hwq
        subst hy2
        rw [hy1] at hS2 hbl2
        clear hK hwq hS
        (try simp only [Act.put])
        refine wpAnyK_all (rs := [3]) (by kernel_rfl) (by simp) (fun i hi => ?_)
        simp only [List.mem_cons, List.not_mem_nil, or_false] at hi
        subst hi
        refine stepK (o := ⟨none, _, _, _, _, _⟩) rfl (fun K hK => ?_)
        (try rw [if_pos (by rfl)])
        refine wp_store_mid 27 _ _ rfl (gs + 1) 0 #[.int .i64 s'.2.2.sb, .int .i64 s'.2.2.pb, .int .i64 s'.2.2.parts, .slice (some ⟨ge', 0, none⟩) s'.2.2.enc.length ec4] rfl rfl (fun j hj => by rw [Nat.zero_add]; have hj2 : j < 4 := hj; exact ⟨by rw [cell_of_row y1 (gs + 1) j _ _ _ hbl2, Array.getElem?_eq_getElem (by exact hj2)]; rfl, hbl2.frozen j⟩) (by kernel_rfl) (by simp [Value.oneCell']) ?_
        have hS3 : (fun W : World => Blk W g11 #[.slice (some ⟨gv', 0, none⟩) s'.1.length c4, .int .i64 s'.2.1] 24 ∧ Blk W g12 #[.int .i64 s'.2.2.sb, .int .i64 s'.2.2.pb, .int .i64 s'.2.2.parts, .slice (some ⟨ge', 0, none⟩) s'.2.2.enc.length ec4] 27) (y1.setCells (gs + 1) 0 (tB2 s' ge' ec4)) := ⟨hS2.1.aside (ne_typ hS2.1 hbl2 (by decide)) 0 _, hS2.2.aside hgn2 0 _⟩
        refine hK _ _ hS3 fun wq hwq => ?_
        have HA7 := Lib.hid (show StA w.heap.size gs (gs + 1) gp s' gv' c4 ge' ec4 A2 n2 c2 wq from by rw [← hwq, ← hy1]; exact HA6.out.next1 HO1.out HO2.out)
        have HL7 := Lib.hid (show Later w wq from by rw [← hwq, ← hy1]; exact Later.fill (Later.fill HL6.out HA6.out.hb.1 0 _) HA6.out.hb.2.1 0 _)
        clear hK hwq hS2 hS3 hbl2 hy1 HA6 HO1 HO2 HL6
        (try simp only [Act.put])
        refine wpAnyK_done (by kernel_rfl) ?_ _
        go_wp2_with fail
        go_roundw
        case rel => exact StR.mk _ (i + 1) s' gv' c4 ge' ec4 (by go_num) (by omega) HKP.out.may HKP.out.lay HA7.out HL7.out
        case measure => simp [intOf]; omega
end Go.Proofs.YtklohbglkbhjhaaDoor
