
import Derived.Test.YtkdpjocglfephaaDoorGrpN
import Derived.Test.YtkdpjocglfephaaDoorRefOrder
import Derived.Test.YtkdpjocglfephaaDoorBase
import Derived.Test.YtkdpjocglfephaaDoorCell
import Derived.Test.YtkdpjocglfephaaDoorAggB
import Derived.Test.YtkdpjocglfephaaDoorTab
import Derived.Test.YtkdpjocglfephaaDoorAggS
import Derived.Test.YtkdpjocglfephaaDoorGrpT
import Derived.Test.YtkdpjocglfephaaDoorRefSum
import Derived.Test.YtkdpjocglfephaaDoorRefOne
import Derived.Test.YtkdpjocglfephaaDoorRefBef
import Derived.Test.YtkdpjocglfephaaDoorRefOf
import Derived.Deep.CutBlock
import Derived.Deep.CutRange
import Derived.Laws.Externs
import Derived.Shelf.SlSortCmp.QuietGrown
import Derived.BigQuiet
import Derived.Test.YtkdpjocglfephaaDoorInsl
import Derived.WalkKit
import Derived.Laws.OwnMore
import Derived.Laws.BytesArg
import Derived.Laws.Rows
import Derived.Deep.AppendLies
import Derived.Deep.Draws
import Derived.Test.YtkdpjocglfephaaDoorChecked
import Derived.Deep.OwnRows
import Derived.Lib.Hide
import Derived.Deep.Quiet
import Derived.Laws.AppendOwnNone
import Derived.Lib.Strings
import Derived.Outline
import Derived.WalkLawsBesides
import Derived.WalkSpells
import Derived.PlainAid
import Derived.Deep.QuietTactic
import Derived.RegionTactic
import Derived.BigRegion
import Derived.Handy
import Derived.Laws.BitsAllLaws
import Derived.Deep.RegionWith
import Derived.Lib.AppendStr
import Derived.Deep.RegionLaw
import Derived.Maps.AppendAt
import Derived.OpenShut
import Derived.WideShapes
import Derived.ChangeArms
import Derived.Deep.Slices
import Derived.Sort.Grow
import Derived.OrdersHeld
import Derived.LaidEql
import Derived.Stop.Asserts
import Derived.RowKitTokens
import Derived.Laws.BitsLemmas
import Derived.Laws.Bits64
import Derived.WalkSmall
import Derived.Stop.IfaceNil
import Derived.Lib.Bytealg
import Derived.Deep.SlicePairs
import Derived.Test.YtkdpjocglfephaaDoorShelf
import Derived.Deep.RegionHeld3
import Derived.Sort.LotA
/- The document's Group. (tools/gen_grp.py) -/





namespace Go.Proofs.YtkdpjocglfephaaDoor
open Go.RowKit
set_option linter.unusedVariables false

set_option maxRecDepth 100000 in
set_option maxHeartbeats 16000000 in
theorem refGroup_any (A Bp Gp : Option Addr) (n c bn bc gn gc : Nat) (zs : List SlV) (bys : List Int) (aggs : List (Int × Int)) (w : World) (hn : n = zs.length) (hl : n ≤ 1000) (hbn : bn = bys.length) (hbl : bn ≤ 1000) (hgn : gn = aggs.length) (hgl : gn ≤ 1000) (hr : RowsAt w A zs) (hb : Has w Bp (iin bys)) (hg : Has w Gp (fa aggs)) (hlen : ∀ s ∈ zs, s.l.length ≤ 1000) (h20 : heightC (colsOf zs) ≤ 20)
    (h64 : ∀ s ∈ zs, ∀ x ∈ s.l, -9223372036854775808 ≤ x.2.1 ∧ x.2.1 ≤ 9223372036854775807) :
    Calls Tryd.prog 20 #[.slice A n c, .slice Bp bn bc, .slice Gp gn gc] w (GroupP (colsOf zs) bys aggs (zs.length : Int) w) := by
  subst hn hbn hgn
  have HR := Lib.hid hr
  have HB := Lib.hid hb
  have HG := Lib.hid hg
  have HLEN := Lib.hid hlen
  have H64 := Lib.hid h64
  have HI0 := Lib.hid (CkI.mk (P := fun c : Int => 0 ≤ c ∧ c < (zs.length : Int)) (l := bys) (w := w) (wr := w) 0 0 rfl (Nat.zero_le _) (by intro c hc; simp at hc) (Later.refl _))
  clear hr hb hg hlen h64
  go_enter Tryd.func20, Tryd.ntmps20
  go_wp2_with fail
  go_loopw [8] (fun iv wr => CkI (fun c : Int => 0 ≤ c ∧ c < (zs.length : Int)) bys w iv wr) (fun i _ => bys.length - (intOf i).toNat)
  case atStart => exact HI0.out
  case round =>
    obtain ⟨k, rfl, hk, hall, lat⟩ := hrel
    have HALL := Lib.hid hall
    have HLAT := Lib.hid lat
    clear HI0 hall
    by_cases hlt : k < bys.length
    · obtain ⟨b, off, hA, c0⟩ := (HB.out.later lat).iin k hlt
      subst hA
      have HTA := Lib.hid (fun (h : 0 ≤ bys[k] ∧ bys[k] < (zs.length : Int)) => take_all HALL.out hlt h)
      have HMM := Lib.hid (show bys[k] ∈ bys from List.getElem_mem hlt)
      generalize bys[k] = c at c0 HTA HMM
      clear lat
      by_cases h0 : c < 0
      · have HBAD := Lib.hid (show ¬ RunOk (zs.length : Int) bys aggs from fun h => by have := h.1 _ HMM.out; omega)
        have hd : decide (c < 0) = true := by simpa using h0
        go_wp2_with fail
        go_ret2
        exact .inl ⟨HBAD.out, rfl, HLAT.out⟩
      · have hd : decide (c < 0) = false := by simpa using h0
        by_cases h1 : (zs.length : Int) ≤ c
        · have HBAD := Lib.hid (show ¬ RunOk (zs.length : Int) bys aggs from fun h => by have := h.1 _ HMM.out; omega)
          have hd2 : decide ((zs.length : Int) ≤ c) = true := by simpa using h1
          go_wp2_with fail
          go_ret2
          exact .inl ⟨HBAD.out, rfl, HLAT.out⟩
        · have hd2 : decide ((zs.length : Int) ≤ c) = false := by simpa using h1
          have HT2 := Lib.hid (HTA.out ⟨by omega, by omega⟩)
          clear HTA HMM
          go_wp2_with fail
          go_roundw
          case rel => exact CkI.mk _ (k + 1) (by omega) hlt HT2.out HLAT.out
          case measure => simp [intOf]; omega
    · have HBY := Lib.hid (show ∀ c ∈ bys, 0 ≤ c ∧ c < (zs.length : Int) from by
        have := HALL.out
        rwa [show k = bys.length by omega, List.take_length] at this)
      obtain rfl : k = bys.length := by omega
      have HJ0 := Lib.hid (CkI.mk (P := AggOk (zs.length : Int)) (l := aggs) (w := w) (wr := wr) 0 0 rfl (Nat.zero_le _) (by intro c hc; simp at hc) lat)
      clear HALL lat
      go_wp2_with fail
      go_loopw [9] (fun iv wr => CkI (AggOk (zs.length : Int)) aggs w iv wr) (fun i _ => aggs.length - (intOf i).toNat)
      case atStart => exact HJ0.out
      case round =>
        obtain ⟨j, rfl, hj, hall, lat⟩ := hrel
        have HALL := Lib.hid hall
        clear HJ0 hall HLAT
        by_cases hltj : j < aggs.length
        · obtain ⟨b, off, hA, c0, c1⟩ := (HG.out.later lat).fa j hltj
          subst hA
          have HTA := Lib.hid (fun (h : AggOk (zs.length : Int) (aggs[j].1, aggs[j].2)) => take_all HALL.out hltj h)
          have HMM := Lib.hid (show (aggs[j].1, aggs[j].2) ∈ aggs from List.getElem_mem hltj)
          generalize aggs[j].1 = op at c0 HTA HMM
          generalize aggs[j].2 = at_ at c1 HTA HMM
          obtain ⟨gv, hgv⟩ : ∃ g, wr.heap.size = g := ⟨_, rfl⟩
          obtain ⟨w0, hw0⟩ : ∃ x, wr.alloc (.cells #[.int .i64 0, .int .i64 0] 66) = x := ⟨_, rfl⟩
          have BV0 : Blk w0 gv #[.int .i64 0, .int .i64 0] 66 := hw0 ▸ Blk.new wr _ _ gv hgv.symm
          have l0 : Later w w0 := hw0 ▸ lat.alloc _
          have p0 := BV0.cell 0 _ rfl
          have p1 := BV0.cell 1 _ rfl
          have f0 := BV0.frozen 0
          have f1 := BV0.frozen 1
          have hgw : w.heap.size ≤ gv := hgv ▸ lat.size
          obtain ⟨w1, hw1⟩ : ∃ x, (w0.setCell ⟨gv, 0, none⟩ (.int .i64 op)).setCell ⟨gv, 1, none⟩ (.int .i64 at_) = x := ⟨_, rfl⟩
          have BV : Blk w1 gv #[.int .i64 op, .int .i64 at_] 66 := hw1 ▸ (BV0.set_ 0 (.int .i64 op)).set_ 1 (.int .i64 at_)
          have HLW := Lib.hid (show Later w w1 from hw1 ▸ later_set (later_set l0 hgw 0 _) hgw 1 _)
          have v0 := BV.cell 0 _ rfl
          have v1 := BV.cell 1 _ rfl
          clear lat BV BV0 l0
          by_cases hok : AggOk (zs.length : Int) (op, at_)
          · have HT2 := Lib.hid (HTA.out hok)
            obtain ⟨k1, k2, k3, k4⟩ := hok
            dsimp only at k1 k2 k3 k4
            have d1 : decide (op < 1) = false := by simpa using k1
            have d2' : decide (4 < op) = false := by simpa using k2
            have d3' : decide ((zs.length : Int) ≤ at_) = false := by simpa using k3
            by_cases h4 : at_ < 0
            · have d4 : decide (at_ < 0) = true := by simpa using h4
              obtain rfl : op = 1 := by omega
              clear HTA HMM k1 k2 k3 k4 h4
              go_wp2_with fail
              go_roundw
              case rel => exact CkI.mk _ (j + 1) (by omega) hltj HT2.out HLW.out
              case measure => simp [intOf]; omega
            · have d4 : decide (at_ < 0) = false := by simpa using h4
              clear HTA HMM k1 k2 k3 k4 h4
              go_wp2_with fail
              go_roundw
              case rel => exact CkI.mk _ (j + 1) (by omega) hltj HT2.out HLW.out
              case measure => simp [intOf]; omega
          · have HBAD := Lib.hid (show ¬ RunOk (zs.length : Int) bys aggs from fun h => hok (h.2 _ HMM.out))
            clear HTA HMM HALL
            have hcase : (op < 1) ∨ (¬ op < 1 ∧ 4 < op) ∨ (¬ op < 1 ∧ ¬ 4 < op ∧ (zs.length : Int) ≤ at_) ∨ (¬ op < 1 ∧ ¬ 4 < op ∧ ¬ (zs.length : Int) ≤ at_ ∧ at_ < 0 ∧ op ≠ 1) := by
              unfold AggOk at hok
              dsimp only at hok
              omega
            clear hok
            rcases hcase with h1 | ⟨h1, h2⟩ | ⟨h1, h2, h3⟩ | ⟨h1, h2, h3, h4, h5⟩
            · have d1 : decide (op < 1) = true := by simpa using h1
              go_wp2_with fail
              go_ret2
              exact .inl ⟨HBAD.out, rfl, HLW.out⟩
            · have d1 : decide (op < 1) = false := by simpa using h1
              have d2 : decide (4 < op) = true := by simpa using h2
              go_wp2_with fail
              go_ret2
              exact .inl ⟨HBAD.out, rfl, HLW.out⟩
            · have d1 : decide (op < 1) = false := by simpa using h1
              have d2 : decide (4 < op) = false := by simpa using h2
              have d3 : decide ((zs.length : Int) ≤ at_) = true := by simpa using h3
              go_wp2_with fail
              go_ret2
              exact .inl ⟨HBAD.out, rfl, HLW.out⟩
            · have d1 : decide (op < 1) = false := by simpa using h1
              have d2 : decide (4 < op) = false := by simpa using h2
              have d3 : decide ((zs.length : Int) ≤ at_) = false := by simpa using h3
              have d4 : decide (at_ < 0) = true := by simpa using h4
              have d5 : (op != 1) = true := by simpa using h5
              go_wp2_with fail
              go_ret2
              exact .inl ⟨HBAD.out, rfl, HLW.out⟩
        · have HOK := Lib.hid (show RunOk (zs.length : Int) bys aggs from ⟨HBY.out, by
            have := HALL.out
            rwa [show j = aggs.length by omega, List.take_length] at this⟩)
          obtain rfl : j = aggs.length := by omega
          have HL0 := Lib.hid lat
          have HRW := Lib.hid (refRows_any A zs.length c zs wr rfl hl (HR.out.later lat) HLEN.out)
          obtain ⟨cols, hcols⟩ : ∃ x, colsOf zs = x := ⟨_, rfl⟩
          have HCC := Lib.hid hcols
          have HCL := Lib.hid (show cols.length = zs.length from by rw [← hcols]; simp [colsOf])
          clear HALL HBY lat hcols
          go_wp2_with fail
          refine HRW.out.mono ?_
          rintro e w2 ⟨RA, rc, rs, rfl, hrs, hrat, hrc, hrc2, hrnil, l2⟩
          have HRS := Lib.hid hrs
          have HRAT := Lib.hid hrat
          have HL2 := Lib.hid (HL0.out.trans l2)
          rw [HCC.out] at HRS h20 ⊢
          have HNR := Lib.hid (show rs.length = heightC cols from by
            have := congrArg List.length HRS.out
            rw [List.length_map] at this
            rw [this]
            unfold rowsC
            rw [List.length_map, List.length_range])
          have hrs20 : rs.length ≤ 20 := by rw [HNR.out]; exact h20
          have HK0 := Lib.hid (KyI.mk (bys := bys) (w := w2) (wr := w2) 0 0 0 none 0 rfl rfl (Nat.zero_le _) (ownG_nil _ _ _ _) (fun _ => rfl) (Later.refl _))
          clear hrs hrat hrc hrc2 hrnil l2 HRW HL0 h20
          go_wp2_with fail
          go_loopw [12, 13] (fun kv iv wr => KyI bys w2 kv iv wr) (fun _ i _ => bys.length - (intOf i).toNat)
          case atStart => exact HK0.out
          case round =>
            obtain ⟨k, K, kc, rfl, rfl, hk, hown, hnil, lat⟩ := hrel
            have HOWN := Lib.hid hown
            have HNIL := Lib.hid hnil
            have HLAT := Lib.hid lat
            clear HK0 hown hnil
            by_cases hlt : k < bys.length
            · obtain ⟨b, off, hA, c0⟩ := (HB.out.later (HL2.out.trans lat)).iin k hlt
              subst hA
              have HF := Lib.hid (show fkey (bys.take (k + 1)) = fkey (bys.take k) ++ [.int .i64 bys[k], .bool false] from by
                rw [List.take_succ_eq_append_getElem hlt, fkey_append]; rfl)
              generalize bys[k] = c at c0 HF
              have HBK := Lib.hid (fun (wz : World) => Blk.new wz #[.int .i64 c, .bool false] 105 wz.heap.size rfl)
              have HOB := Lib.hid (fun (o : Obj) => own_later HOWN.out (Later.new wr o))
              have hs1 := lat.size
              clear lat
              go_wp2_with (at_builtin; refine wpList_append_g _ rfl (.tmp 89) (.tmp 95) 103 rfl w2.heap.size 105 _ 2 16 Tryd.underlying103 info_key rfl (by decide) _ k _ rfl (HOB.out _) _ 1 1 [.int .i64 c, .bool false] rfl (HBK.out wr).has rfl (by intro h; cases h) (by intro u hu; simp only [List.mem_cons, List.not_mem_nil, or_false] at hu; rcases hu with rfl | rfl <;> rfl) (by unfold maxLen; omega) (by omega) (by simp; omega) ?_; rintro A' c' wq hO _ hbel hn2; have HO2 := Lib.hid hO; have HN2 := Lib.hid hn2; have HL3 := Lib.hid (Later.of ((HLAT.out.alloc _).below.trans hbel)); clear hO hn2 hbel)
              go_roundw
              case rel => exact KyI.mk _ (k + 1) _ _ _ (by omega) rfl hlt (by rw [HF.out]; exact HO2.out) HN2.out HL3.out
              case measure => simp [intOf]; omega
            · obtain rfl : k = bys.length := by omega
              have HKH := Lib.hid (show Has wr K (fkey bys) from by have h := Has.ownG HOWN.out; rwa [List.take_length] at h)
              have HLW := Lib.hid (HL2.out.trans lat)
              have HORD := Lib.hid (refOrder_any A K zs.length c bys.length kc zs bys rs.length wr rfl rfl hl hbl (HR.out.later HLW.out) HKH.out HOK.out.1 (by rw [HCC.out, HNR.out]) (by omega) (fun s hs => ⟨by rw [HNR.out, ← HCC.out]; exact heightC_le (List.mem_map.2 ⟨s, hs, rfl⟩), HLEN.out s hs⟩))
              rw [HCC.out] at HORD
              have HRAT := Lib.hid (HRAT.out.later lat)
              clear HOWN HNIL HLAT lat HKH HL2
              go_wp2_with fail
              refine HORD.out.mono ?_
              rintro e w5 ⟨P, m, pc, S, rfl, rfl, hS, hP, l5⟩
              have HIS := Lib.hid hS
              have HPS := Lib.hid hP
              have HRAT := Lib.hid (HRAT.out.later l5)
              have HL5 := Lib.hid (HLW.out.trans l5)
              have HSL := Lib.hid (show S.length = rs.length from by rw [hS.1.length_eq, List.length_range])
              have HSM := Lib.hid (show ∀ j (h : j < S.length), S[j] < rs.length from fun j h => List.mem_range.1 (hS.1.mem_iff.1 (List.getElem_mem h)))
              have hS20 : S.length ≤ 20 := by have := HSL.out; omega
              have HG0 := Lib.hid (GrI.mk (cf := cmpBy cols bys) (S := S) (rs := rs) (w := w5) (wr := w5) 0 0 none 0 0 rfl (Nat.zero_le _) (QS.nil_ _ _) (Later.refl _))
              clear hS hP l5 HLW HORD
              go_wp2_with fail
              go_loopw [15, 16] (fun lv iv wr => GrI (cmpBy cols bys) S rs w5 lv iv wr) (fun _ i _ => S.length - (intOf i).toNat)
              case atStart => exact HG0.out
              case round =>
                obtain ⟨k, T, n, tc, rfl, rfl, hk, hqs, lat⟩ := hrel
                have HQS := Lib.hid hqs
                have HLC := Lib.hid lat
                have HIF := runsF_is (cf := cmpBy cols bys) (cmpBy_turn cols bys) (fun x y z h1 h2 => (cmpBy_trans cols bys x y z h1 h2).1) S k
                have hnl := (runsK_len (cmpBy cols bys) S k).1
                have hnl2 := (runsK_len (cmpBy cols bys) S k).2
                have HRM := Lib.hid (runsK_mem (cmpBy cols bys) S k hk)
                have HRL := Lib.hid (runsK_row_le (cmpBy cols bys) S k)
                rw [← HIF.1] at hnl hnl2 HRM HRL
                have hlen := hqs.len
                rw [grpsOf_len] at hlen
                rw [← hlen] at hnl hnl2
                clear HG0 hqs
                by_cases hlt : k < S.length
                · obtain ⟨pb, po, hPA, cj⟩ := (HPS.out.later lat).pin k hlt
                  subst hPA
                  have hgd := getD_at hlt
                  have hpk := HSM.out k hlt
                  have HNEW := Lib.hid (fun h => runsF_new (cf := cmpBy cols bys) (S := S) (k := k) h)
                  have HOLD := Lib.hid (fun h => runsF_old (cf := cmpBy cols bys) (S := S) (k := k) h)
                  rw [hgd] at HNEW HOLD
                  generalize S[k] = p at cj hpk HNEW HOLD
                  clear hgd
                  obtain ⟨rb, ro, hRA, ck, hrow, _, _, _⟩ := (HRAT.out.later lat).get p hpk
                  subst hRA
                  have HRV := Lib.hid (show (rowOf rs p).v = .slice rs[p].a rs[p].l.length rs[p].c from by rw [rowOf_get hpk]; rfl)
                  have hpl : rs[p].l = rowAt cols p := by rw [← rowOf_get hpk]; exact rowOf_l HRS.out hpk
                  have hrlen : rs[p].l.length = zs.length := by rw [hpl, rowAt_len]; exact HCL.out
                  rw [hpl] at hrow
                  have hpz : (p : Int) < (rs.length : Int) := by omega
                  generalize rs[p].a = ra at ck HRV hrow
                  generalize rs[p].l.length = rl at ck HRV hrlen
                  generalize rs[p].c = rcp at ck HRV
                  have HROW := Lib.hid hrow
                  have HRLEN := Lib.hid hrlen
                  clear hpl hrow hrlen
                  by_cases hk0 : k = 0
                  · have HNEW := Lib.hid (HNEW.out (.inl hk0))
                    obtain rfl : n = 0 := by omega
                    clear HIF hnl hnl2 lat HOLD hlen hk0
                    obtain ⟨g1, hg1⟩ : ∃ g, wr.heap.size = g := ⟨_, rfl⟩
                    obtain ⟨wa, hwa⟩ : ∃ x, wr.alloc (.cells #[.slice ra rl rcp] 56) = x := ⟨_, rfl⟩
                    have la : Later wr wa := hwa ▸ Later.new _ _
                    have BA : Blk wa g1 #[.slice ra rl rcp] 56 := hwa ▸ Blk.new wr _ _ g1 hg1.symm
                    obtain ⟨g2, hg2⟩ : ∃ g, wa.heap.size = g := ⟨_, rfl⟩
                    obtain ⟨wb, hwb⟩ : ∃ x, wa.alloc (.cells #[.slice (some ⟨g1, 0, none⟩) 1 1] 67) = x := ⟨_, rfl⟩
                    have lb : Later wa wb := hwb ▸ Later.new _ _
                    have BB : Blk wb g2 #[.slice (some ⟨g1, 0, none⟩) 1 1] 67 := hwb ▸ Blk.new wa _ _ g2 hg2.symm
                    obtain ⟨xs, hxo, hxa⟩ := HQS.out.own
                    have hbase : w5.heap.size ≤ g1 := hg1 ▸ HLC.out.size
                    have HOW := Lib.hid (own_later hxo (la.trans lb))
                    have HAD := Lib.hid (fun (wz : World) (A' : Option Addr) (c' : Nat) => hxa wb wz A' c' (some ⟨g1, 0, none⟩) 1 [rowOf rs p] (la.trans lb) rfl (by show wb.ownsRow _ _ _ _ 1 [(rowOf rs p).v]; rw [HRV.out]; exact Blk.ownG (size := 1) (n := 1) (BA.later lb) hbase rfl (by unfold maxLen; omega)) (fun q hq => by have hq2 : some g1 = some q := hq; injection hq2 with hq3; omega) (fun h => by cases h))
                    have HBB := Lib.hid BB.has
                    have HSB := Lib.hid (show w5.heap.size ≤ wb.heap.size from (HLC.out.trans (la.trans lb)).size)
                    have HLB := Lib.hid (HLC.out.trans (la.trans lb))
                    clear hxo hxa BA BB la lb
                    go_wp2_with (at_builtin; refine wpList_append_x _ rfl (.tmp 141) (.tmp 144) 107 rfl w5.heap.size 67 _ 1 24 Tryd.underlying107 info_qs rfl (by decide) _ 0 _ rfl HOW.out g2 0 1 1 [.slice (some ⟨g1, 0, none⟩) 1 1] rfl HBB.out rfl (by intro u hu; rw [List.mem_singleton] at hu; subst hu; rfl) (by unfold maxLen; omega) (by omega) HSB.out ?_; rintro A' c' wq hO hgr hbel hat hn2; have HGZ := Lib.hid (HAD.out _ _ _ hO hgr hat hn2); have HLZ := Lib.hid (Later.of (HLB.out.below.trans hbel)); clear hO hgr hbel hat hn2)
                    go_roundw
                    case rel => exact GrI.mk _ (k + 1) _ _ _ (by omega) hlt (by rw [HNEW.out, grpsOf_new]; exact HGZ.out) HLZ.out
                    case measure => simp [intOf]; omega
                  · have hk0x := Lib.hid hk0
                    obtain ⟨m, rfl⟩ : ∃ m, n = m + 1 := ⟨n - 1, by have := hnl2 (by omega); omega⟩
                    obtain ⟨f, r, hfr1, _⟩ := HIF.2 (by omega)
                    rw [← HIF.1] at hfr1
                    have hkc : (0 : Int) < (m : Int) + 1 := by omega
                    rw [hfr1] at HNEW HOLD
                    rw [List.getD_cons_zero] at HNEW HOLD
                    have hfm : f ∈ S := by
                      refine (HRM.out ((runsF (cmpBy cols bys) S k).getD ((runsF (cmpBy cols bys) S k).length - 1) []) ?_).2 f (by rw [hfr1]; simp)
                      rw [List.getD_eq_getElem?_getD, List.getElem?_eq_getElem (by omega)]
                      exact List.getElem_mem _
                    have hfN : f < rs.length := by
                      obtain ⟨j, hj, rfl⟩ := List.mem_iff_getElem.1 hfm
                      exact HSM.out j hj
                    obtain ⟨tb, La, Ln, Lc, hTA, hLn, hcell, hfz, hbt, hcapn, hown, hput⟩ := HQS.out.last1
                    subst hTA
                    have hLb : Ln ≤ 20 := by
                      rw [hLn, grpsOf_last, List.length_map, grpsOf_len]
                      exact Nat.le_trans (last_le HRL.out) (by omega)
                    have hLH := Has.ownG hown
                    have HOWL := Lib.hid hown
                    have HLG := Lib.hid (show (grpsOf rs (runsF (cmpBy cols bys) S k)).getD ((grpsOf rs (runsF (cmpBy cols bys) S k)).length - 1) [] = rowOf rs f :: r.map (rowOf rs) from by rw [grpsOf_last, grpsOf_len, hfr1]; rfl)
                    rw [HLG.out] at hLH hLn
                    have hLn1 : 1 ≤ Ln := by rw [hLn]; simp
                    obtain ⟨lb0, lo0, hLA, _, cl0⟩ := hLH.at_ (k := 0) (by simp [rvs])
                    subst hLA
                    rw [show (rvs (rowOf rs f :: r.map (rowOf rs)))[0]'(by simp [rvs]) = (rowOf rs f).v from rfl, rowOf_get hfN, SlV.v_eq, Nat.add_zero] at cl0
                    have hfl : rs[f].l = rowAt cols f := by rw [← rowOf_get hfN]; exact rowOf_l HRS.out hfN
                    have hflen : rs[f].l.length = zs.length := by rw [hfl, rowAt_len]; exact HCL.out
                    have hfrow : Has wr rs[f].a (fl rs[f].l) := by obtain ⟨_, _, _, _, h, _⟩ := (HRAT.out.later lat).get f hfN; exact h
                    rw [hfl] at hfrow
                    generalize rs[f].a = fa_ at cl0 hfrow
                    generalize rs[f].l.length = fl_ at cl0 hflen
                    generalize rs[f].c = fc_ at cl0
                    have hcl := HCL.out
                    have hrl2 := HRLEN.out
                    have HAK := Lib.hid (refAlike_any fa_ ra Bp fl_ fc_ rl rcp bys.length bc (rowAt cols f) (rowAt cols p) bys wr (by rw [rowAt_len]; omega) (by rw [rowAt_len]; have := HRLEN.out; omega) rfl (by rw [rowAt_len]; omega) (by rw [rowAt_len]; omega) hbl hfrow HROW.out (HB.out.later (HL5.out.trans lat)) (fun c hc => by have := HOK.out.1 c hc; rw [rowAt_len, rowAt_len, HCL.out]; omega))
                    have HEQ := Lib.hid (show (∀ c ∈ bys, cmp3 ((rowAt cols f).getD c.toNat z3) ((rowAt cols p).getD c.toNat z3) = 0) ↔ cmpBy cols bys f p = 0 from by
                      rw [cmpBy_zero]
                      refine forall_congr' fun c => forall_congr' fun hc => ?_
                      have := HOK.out.1 c hc
                      rw [rowAt_cell cols c f ⟨this.1, by rw [HCL.out]; exact this.2⟩, rowAt_cell cols c p ⟨this.1, by rw [HCL.out]; exact this.2⟩])
                    have HCE := Lib.hid hcell
                    have HFZ := Lib.hid hfz
                    have HBT := Lib.hid hbt
                    have HPUT := Lib.hid hput
                    have hL0 : (0 : Int) < (Ln : Int) := by omega
                    clear hLH HIF hnl2 hfm hfr1 hfz hbt hown hput hfl hfrow hcl hrl2 hflen hLn
                    clear hlen hk0
                    go_wp2_with fail
                    refine HAK.out.mono ?_
                    rintro e wc ⟨b, hb, rfl, lc⟩
                    rw [HEQ.out] at hb
                    rcases b with _ | _
                    · have HNEW := Lib.hid (HNEW.out (.inr fun h => by have := hb.2 h; cases this))
                      have HQS := Lib.hid (HQS.out.later lc)
                      have HLC := Lib.hid (HLC.out.trans lc)
                      clear hb lc HOLD HPUT HOWL HAK HEQ hcell lat
                      obtain ⟨g1, hg1⟩ : ∃ g, wc.heap.size = g := ⟨_, rfl⟩
                      obtain ⟨wa, hwa⟩ : ∃ x, wc.alloc (.cells #[.slice ra rl rcp] 56) = x := ⟨_, rfl⟩
                      have la : Later wc wa := hwa ▸ Later.new _ _
                      have BA : Blk wa g1 #[.slice ra rl rcp] 56 := hwa ▸ Blk.new wc _ _ g1 hg1.symm
                      obtain ⟨g2, hg2⟩ : ∃ g, wa.heap.size = g := ⟨_, rfl⟩
                      obtain ⟨wb, hwb⟩ : ∃ x, wa.alloc (.cells #[.slice (some ⟨g1, 0, none⟩) 1 1] 67) = x := ⟨_, rfl⟩
                      have lb : Later wa wb := hwb ▸ Later.new _ _
                      have BB : Blk wb g2 #[.slice (some ⟨g1, 0, none⟩) 1 1] 67 := hwb ▸ Blk.new wa _ _ g2 hg2.symm
                      obtain ⟨xs, hxo, hxa⟩ := HQS.out.own
                      have hbase : w5.heap.size ≤ g1 := hg1 ▸ HLC.out.size
                      have HOW := Lib.hid (own_later hxo (la.trans lb))
                      have HAD := Lib.hid (fun (wz : World) (A' : Option Addr) (c' : Nat) => hxa wb wz A' c' (some ⟨g1, 0, none⟩) 1 [rowOf rs p] (la.trans lb) rfl (by show wb.ownsRow _ _ _ _ 1 [(rowOf rs p).v]; rw [HRV.out]; exact Blk.ownG (size := 1) (n := 1) (BA.later lb) hbase rfl (by unfold maxLen; omega)) (fun q hq => by have hq2 : some g1 = some q := hq; injection hq2 with hq3; omega) (fun h => by cases h))
                      have HBB := Lib.hid BB.has
                      have HSB := Lib.hid (show w5.heap.size ≤ wb.heap.size from (HLC.out.trans (la.trans lb)).size)
                      have HLB := Lib.hid (HLC.out.trans (la.trans lb))
                      clear hxo hxa BA BB la lb
                      go_wp2_with (at_builtin; refine wpList_append_x _ rfl (.tmp 141) (.tmp 144) 107 rfl w5.heap.size 67 _ 1 24 Tryd.underlying107 info_qs rfl (by decide) _ (m + 1) _ rfl HOW.out g2 0 1 1 [.slice (some ⟨g1, 0, none⟩) 1 1] rfl HBB.out rfl (by intro u hu; rw [List.mem_singleton] at hu; subst hu; rfl) (by unfold maxLen; omega) (by omega) HSB.out ?_; rintro A' c' wq hO hgr hbel hat hn2; have HGZ := Lib.hid (HAD.out _ _ _ hO hgr hat hn2); have HLZ := Lib.hid (Later.of (HLB.out.below.trans hbel)); clear hO hgr hbel hat hn2)
                      go_roundw
                      case rel => exact GrI.mk _ (k + 1) _ _ _ (by omega) hlt (by rw [HNEW.out, grpsOf_new]; exact HGZ.out) HLZ.out
                      case measure => simp [intOf]; omega
                    · have HOLD := Lib.hid (HOLD.out (fun h => h.elim (fun h => hk0x.out h) (fun h => h (hb.1 rfl))))
                      clear hb HNEW HAK HEQ hcell lat HQS
                      obtain ⟨g1, hg1⟩ : ∃ g, wc.heap.size = g := ⟨_, rfl⟩
                      obtain ⟨wa, hwa⟩ : ∃ x, wc.alloc (.cells #[.slice ra rl rcp] 56) = x := ⟨_, rfl⟩
                      have la : Later wc wa := hwa ▸ Later.new _ _
                      have HBA := Lib.hid (show Has wa (some ⟨g1, 0, none⟩) [.slice ra rl rcp] from hwa ▸ (Blk.new wc [Value.slice ra rl rcp].toArray 56 g1 hg1.symm).has)
                      have HROWO := Lib.hid (own_later HOWL.out (lc.trans la))
                      have HSB := Lib.hid (show w5.heap.size ≤ wa.heap.size from ((HLC.out.trans lc).trans la).size)
                      have HLA := Lib.hid ((HLC.out.trans lc).trans la)
                      have HLA0 := Lib.hid (lc.trans la)
                      have hcell := lc.cell HCE.out
                      clear la lc
                      go_wp2_with (at_builtin; go_loud (refine wpList_append_x _ rfl (.tmp 136) (.tmp 138) 67 rfl w5.heap.size 56 _ 1 24 Tryd.underlying67 info_qr rfl (by decide) _ Ln _ rfl HROWO.out g1 0 1 1 [.slice ra rl rcp] rfl HBA.out rfl (by intro u hu; rw [List.mem_singleton] at hu; subst hu; rfl) (by unfold maxLen; omega) (by omega) HSB.out ?_); rintro A2 c2 wz hO hgr hbel hat hn; go_loud (obtain ⟨hcz, hfz, hgz⟩ := HPUT.out _ _ _ _ (rowOf rs p) HLA0.out (by rw [HRV.out]; exact hO) hgr hat hn); go_loud (have HGZ := Lib.hid hgz); go_loud (have HLZ := Lib.hid ((Later.of (HLA.out.below.trans hbel)).set_ (p := ⟨tb, m, none⟩) HBT.out (.slice A2 (Ln + 1) c2))); go_loud (clear hO hgr hbel hat hn hgz))
                      go_roundw
                      case rel => exact GrI.mk _ (k + 1) _ _ _ (by omega) hlt (by rw [HOLD.out, grpsOf_old]; exact HGZ.out) HLZ.out
                      case measure => simp [intOf]; omega
                · obtain rfl : k = S.length := by omega
                  obtain ⟨RR, hRR⟩ : ∃ R, R = (if bys = [] ∧ rs.length = 0 then [[]] else runsK (cmpBy cols bys) S rs.length) := ⟨_, rfl⟩
                  have HGO := Lib.hid (groups_ref HIS.out RR hRR)
                  rw [← HSL.out, ← HIF.1] at hRR
                  have HRR := Lib.hid hRR
                  have hn20 : n ≤ 20 := by omega
                  clear hRR HIF hnl lat HRL HRM
                  obtain ⟨q, hq⟩ : ∃ q : Bool, q = decide (bys.length = 0 ∧ n = 0) := ⟨_, rfl⟩
                  have HQ := Lib.hid hq
                  have HLN := Lib.hid hlen
                  have HN2L := Lib.hid hnl2
                  clear hq hlen hnl2
                  go_upto_region 28 with fail
                  go_cut [153] from 146 to 153 (fun cv wx => cv = .bool q ∧ wx = wr)
                  case first =>
                    by_cases hb0 : bys.length = 0
                    · have hbe : ((bys.length : Int) == 0) = true := by simpa using hb0
                      by_cases hn0 : n = 0
                      · have HQ := Lib.hid (show q = true from by rw [HQ.out]; simp [hb0, hn0])
                        have hne : ((n : Int) == 0) = true := by simp [hn0]
                        clear hb0 hn0
                        go_wp2_with fail
                        go_meet
                        exact ⟨by rw [HQ.out], rfl⟩
                      · have HQ := Lib.hid (show q = false from by rw [HQ.out]; simp [hn0])
                        have hne : ((n : Int) == 0) = false := by simp; omega
                        clear hb0 hn0
                        go_wp2_with fail
                        go_meet
                        exact ⟨by rw [HQ.out], rfl⟩
                    · have HQ := Lib.hid (show q = false from by rw [HQ.out]; simp [hb0])
                      have hbe : ((bys.length : Int) == 0) = false := by simp; intro e; exact hb0 (by rw [e]; rfl)
                      clear hb0
                      go_wp2_with fail
                      go_meet
                      exact ⟨by rw [HQ.out], rfl⟩
                  case rest =>
                  obtain ⟨rfl, hwx⟩ := hcut
                  rw [hwx]
                  clear hwx
                  go_upto_if 153 with fail
                  go_cut [15] from 154 to 156 (fun gv wx => ∃ (T : Option Addr) (n tc : Nat), gv = .slice T n tc ∧ n = RR.length ∧ QAt wx T (grpsOf rs RR) ∧ Later w5 wx)
                  case first =>
                    rcases q with _ | _
                    · have HRE := Lib.hid (show RR = runsF (cmpBy cols bys) S S.length from by
                        rw [HRR.out, if_neg]
                        rintro ⟨h1, h2⟩
                        have hz : runsF (cmpBy cols bys) S S.length = [] := by rw [h2]; rfl
                        have hlen := HLN.out
                        rw [hz] at hlen
                        have h3 := HQ.out
                        rw [eq_comm, decide_eq_false_iff_not] at h3
                        exact h3 ⟨by rw [h1]; rfl, hlen⟩)
                      go_wp2_with fail
                      go_meet
                      exact ⟨_, _, _, rfl, by rw [HRE.out]; exact HLN.out, by rw [HRE.out]; exact HQS.out.at_, HLC.out⟩
                    · obtain ⟨hb0, hn0⟩ : bys.length = 0 ∧ n = 0 := by
                        have h3 := HQ.out
                        rwa [eq_comm, decide_eq_true_iff] at h3
                      have hs0 : S.length = 0 := by
                        rcases Nat.eq_zero_or_pos S.length with h | h
                        · exact h
                        · have := HN2L.out h; omega
                      have hF0 : runsF (cmpBy cols bys) S S.length = [] := List.eq_nil_of_length_eq_zero (by have := HLN.out; omega)
                      have HRE := Lib.hid (show RR = [[]] from by rw [HRR.out, if_pos ⟨List.eq_nil_of_length_eq_zero hb0, hs0⟩])
                      obtain ⟨wa, hwa⟩ : ∃ x, wr.alloc (.cells #[.slice none 0 0] 67) = x := ⟨_, rfl⟩
                      obtain ⟨g1, hg1⟩ : ∃ g, wr.heap.size = g := ⟨_, rfl⟩
                      have la : Later wr wa := hwa ▸ Later.new _ _
                      have BA : Blk wa g1 #[.slice none 0 0] 67 := hwa ▸ Blk.new wr _ _ g1 hg1.symm
                      obtain ⟨xs, hxo, hxa⟩ := HQS.out.own
                      have HOW := Lib.hid (own_later hxo la)
                      have HAD := Lib.hid (fun (wz : World) (A' : Option Addr) (c' : Nat) => hxa wa wz A' c' none 0 [] la rfl (ownG_nil _ _ _ _) (fun q hq => by cases hq) (fun _ => rfl))
                      rw [hF0] at HAD
                      have HBB := Lib.hid BA.has
                      have HSB := Lib.hid (show w5.heap.size ≤ wa.heap.size from (HLC.out.trans la).size)
                      have HLB := Lib.hid (HLC.out.trans la)
                      have HSW := Lib.hid HLC.out.size
                      subst hn0
                      clear hxo hxa BA la hF0 hs0 hb0 hlt hk HQS
                      go_wp2_with (at_builtin; refine wpList_append_x _ rfl (.tmp 154) (.tmp 155) 107 rfl w5.heap.size 67 _ 1 24 Tryd.underlying107 info_qs rfl (by decide) _ 0 _ rfl HOW.out g1 0 1 1 [.slice none 0 0] rfl HBB.out rfl (by intro u hu; rw [List.mem_singleton] at hu; subst hu; rfl) (by unfold maxLen; omega) (by omega) HSB.out ?_; rintro A' c' wq hO hgr hbel hat hn2; have HGZ := Lib.hid (HAD.out _ _ _ hO hgr hat hn2); have HLZ := Lib.hid (Later.of (HLB.out.below.trans hbel)); clear hO hgr hbel hat hn2)
                      go_meet
                      exact ⟨_, _, _, rfl, by rw [HRE.out]; rfl, by rw [HRE.out]; exact HGZ.out.at_, HLZ.out⟩
                  case rest =>
                  obtain ⟨T2, n2, tc2, rfl, hn2, hqa, lx⟩ := hcut
                  subst hn2
                  have HQA := Lib.hid hqa
                  have HMEM := Lib.hid HGO.out.mem
                  have HROWL := Lib.hid HGO.out.row_le
                  have HLX := Lib.hid (HL5.out.trans lx)
                  have HRAT := Lib.hid (HRAT.out.later lx)
                  have hn2b : RR.length ≤ 20 := by have := HMEM.out.2; omega
                  obtain ⟨wb, hwb⟩ : ∃ x, x = wc := ⟨_, rfl⟩
                  subst hwb
                  have HI0 := Lib.hid (RgI.mk (cols := cols) (bys := bys) (aggs := aggs) (R := RR) (w := wb) (wr := wb) 0 0 none 0 0 [] rfl (Nat.zero_le _) rfl rfl (RowsOn.nil_ _ _) (Later.refl _))
                  clear hqa lx HQS HLC HPS HSM hS20 HN2L HLN HQ hlt hk HL5 HRR hn20
                  go_wp2_with fail
                  go_loopw [19, 20] (fun rv iv wr => RgI cols bys aggs RR wb rv iv wr) (fun _ i _ => RR.length - (intOf i).toNat)
                  case atStart => exact HI0.out
                  case round =>
                    obtain ⟨k, TT, tn, tc, ors, rfl, rfl, hk, hnk, hmap, hon, lat⟩ := hrel
                    have HMAP := Lib.hid hmap
                    have HON := Lib.hid hon
                    have HLAT := Lib.hid lat
                    have HNK := Lib.hid hnk
                    have hn20 : tn ≤ 20 := by omega
                    clear HI0 hmap hon hnk
                    by_cases hlt : k < RR.length
                    · obtain ⟨rb2, ro2, ga, gcc, hTA, cg, hgp⟩ := (HQA.out.later lat).get k (by rw [grpsOf_len]; exact hlt)
                      subst hTA
                      rw [grpsOf_get rs RR k hlt] at cg hgp
                      rw [List.length_map] at cg
                      have HGM := Lib.hid (HMEM.out.1 _ (List.getElem_mem hlt))
                      have HPSL := Lib.hid (HROWL.out _ (List.getElem_mem hlt))
                      have HMOK := Lib.hid (fun (v : List Val3) (h : rowE cols bys aggs RR[k] = .ok v) => mapE_ok (f := rowE cols bys aggs) hlt HMAP.out h)
                      have HMNO := Lib.hid (fun (n : Int) (h : rowE cols bys aggs RR[k] = .error n) => mapE_no (f := rowE cols bys aggs) hlt HMAP.out h)
                      generalize RR[k] = ps at cg hgp HGM HPSL HMOK HMNO
                      obtain ⟨ws, hws⟩ : ∃ x, x = wr := ⟨_, rfl⟩
                      subst hws
                      have HGP := Lib.hid hgp
                      have HCG := Lib.hid cg
                      have HRW := Lib.hid (HRAT.out.later lat)
                      have HBW := Lib.hid (HB.out.later (HLX.out.trans lat))
                      have HGW := Lib.hid (HG.out.later (HLX.out.trans lat))
                      have hpsl : ps.length ≤ 20 := by have := HPSL.out; omega
                      obtain ⟨p0, hp0⟩ : ∃ p0, ps.getD 0 0 = p0 := ⟨_, rfl⟩
                      have HJ0 := Lib.hid (R2I.mk (F := fun j _ xs => xs = (bys.take j).map (fun c => cellAt cols c p0)) (M := bys.length) (N0 := 0) (ws := ws) (wr := ws) 0 0 none 0 0 [] rfl (Nat.zero_le _) rfl rfl (ownG_nil _ _ _ _) (fun _ => rfl) (Later.refl _))
                      clear hgp cg lat
                      go_wp2_with fail
                      go_loopw [21, 22] (fun rv iv wr => R2I (fun j _ xs => xs = (bys.take j).map (fun c => cellAt cols c p0)) bys.length 0 ws rv iv wr) (fun _ i _ => bys.length - (intOf i).toNat)
                      case atStart => exact HJ0.out
                      case round =>
                        obtain ⟨j, Q, n, qc, xs, rfl, rfl, hj, hnj, hxs, hown, hnil, lat⟩ := hrel
                        have HOWN := Lib.hid hown
                        have HNIL := Lib.hid hnil
                        have HXS := Lib.hid hxs
                        have HNJ := Lib.hid hnj
                        have HL2 := Lib.hid lat
                        have hn1 : n ≤ 1000 := by omega
                        clear HJ0 hown hnil hxs hnj
                        by_cases hltj : j < bys.length
                        · obtain ⟨bb, bo, hBA, cb⟩ := HBW.out.iin j hltj
                          subst hBA
                          have hcin := HOK.out.1 _ (List.getElem_mem hltj)
                          have HXN := Lib.hid (show (bys.take (j + 1)).map (fun c => cellAt cols c p0) = xs ++ [cellAt cols bys[j] p0] from by
                            rw [List.take_succ_eq_append_getElem hltj, List.map_append, ← HXS.out]; rfl)
                          generalize bys[j] = cc at cb hcin HXN
                          obtain ⟨ci, rfl⟩ : ∃ q : Nat, cc = (q : Int) := ⟨cc.toNat, by omega⟩
                          have hcl := HCL.out
                          have hci : ci < cols.length := by omega
                          have hne : ps ≠ [] := HGM.out.1 (fun e => by rw [e] at hltj; simp at hltj)
                          have hp1 : 0 < ps.length := List.length_pos_iff.2 hne
                          have hgd : ps[0] = p0 := by rw [← hp0]; exact (getD_at hp1).symm
                          have hpN := HGM.out.2 p0 (by rw [← hgd]; exact List.getElem_mem hp1)
                          obtain ⟨pb, po, hPA, _, cp⟩ := HGP.out.at_ (k := 0) (by simp [rvs]; omega)
                          subst hPA
                          rw [show (rvs (ps.map (rowOf rs)))[0]'(by simp [rvs]; omega) = (rowOf rs p0).v from by simp [rvs, hgd], rowOf_get hpN, SlV.v_eq, Nat.add_zero] at cp
                          have hpl : rs[p0].l = rowAt cols p0 := by rw [← rowOf_get hpN]; exact rowOf_l HRS.out hpN
                          have hrow : Has ws rs[p0].a (fl rs[p0].l) := by obtain ⟨_, _, _, _, h, _⟩ := HRW.out.get p0 hpN; exact h
                          rw [hpl] at hrow cp
                          rw [rowAt_len] at cp
                          have hcil : ci < (rowAt cols p0).length := by rw [rowAt_len]; exact hci
                          have hcv : cellAt cols (ci : Int) p0 = ((rowAt cols p0)[ci].1, (rowAt cols p0)[ci].2.1, (rowAt cols p0)[ci].2.2) := by
                            rw [← rowAt_cell cols (ci : Int) p0 ⟨by omega, by omega⟩, Int.toNat_natCast, List.getD_eq_getElem?_getD, List.getElem?_eq_getElem hcil]; rfl
                          rw [hcv] at HXN
                          obtain ⟨vb, vo, hVA, c0, c1, c2⟩ := hrow.val3 ci hcil
                          rw [hVA] at cp
                          have hciz : (ci : Int) < (cols.length : Int) := by omega
                          have hpz1 : (0 : Int) < (ps.length : Int) := by omega
                          generalize (rowAt cols p0)[ci].1 = t at c0 HXN
                          generalize (rowAt cols p0)[ci].2.1 = i at c1 HXN
                          generalize (rowAt cols p0)[ci].2.2 = s at c2 HXN
                          generalize rs[p0].c = lc at cp
                          have HF1 := Lib.hid HCG.out
                          have HF2 := Lib.hid cp
                          have HF3 := Lib.hid c0
                          have HF4 := Lib.hid c1
                          have HF5 := Lib.hid c2
                          have HF6 := Lib.hid cb
                          clear cp c0 c1 c2 cb hgd hne lat hrow hVA hcv hcil hpl hpN hcl hci
                          go_upto_region 38 with fail
                          refine wp_region_K (S := fun W : World => Later ws W) (R := fun a b => a = b) (fun _ => rfl) (by kernel_rfl) ?_
                          have hS : Later ws wr.drew := HL2.out.drew
                          have HOD := Lib.hid (own_later HOWN.out (Later.refl wr).drew)
                          obtain ⟨wd, hwd⟩ : ∃ x, wr.drew = x := ⟨_, rfl⟩
                          rw [hwd] at hS HOD ⊢
                          clear hwd
                          refine wpAnyK_take (fun _ => rfl) (fun _ _ _ h k => h.trans k) (fun _ _ h k => k ▸ h) (i := 0) (oi := { dst := some 169, op := _, type := _, pos := _, after := _, guard := _ }) (v := ?_) rfl (by kernel_rfl) (by kernel_rfl) (by kernel_rfl) (fun _ _ _ h => h) (Or.inl (Or.inl ⟨by rfl, ?_⟩)) hS ?_
                          rotate_left
                          focus ((intro w hSw; (try dsimp only at hSw); have f1 := hSw.cell HF1.out; have f2 := hSw.cell HF2.out; have f3 := hSw.cell HF3.out; have f4 := hSw.cell HF4.out; have f5 := hSw.cell HF5.out; have f6 := hSw.cell HF6.out; go_simp); (try with_reducible rfl))
                          intro wq' hwq
                          subst hwq
                          (try simp only [Act.put, List.setIfInBounds_toArray, List.set_cons_zero, List.set_cons_succ])
                          refine wpAnyK_take (fun _ => rfl) (fun _ _ _ h k => h.trans k) (fun _ _ h k => k ▸ h) (i := 1) (oi := { dst := some 170, op := _, type := _, pos := _, after := _, guard := _ }) (v := ?_) rfl (by kernel_rfl) (by kernel_rfl) (by kernel_rfl) (fun _ _ _ h => h) (Or.inl (Or.inl ⟨by rfl, ?_⟩)) hS ?_
                          rotate_left
                          focus ((intro w hSw; (try dsimp only at hSw); have f1 := hSw.cell HF1.out; have f2 := hSw.cell HF2.out; have f3 := hSw.cell HF3.out; have f4 := hSw.cell HF4.out; have f5 := hSw.cell HF5.out; have f6 := hSw.cell HF6.out; go_simp); (try with_reducible rfl))
                          intro wq' hwq
                          subst hwq
                          (try simp only [Act.put, List.setIfInBounds_toArray, List.set_cons_zero, List.set_cons_succ])
                          refine wpAnyK_take (fun _ => rfl) (fun _ _ _ h k => h.trans k) (fun _ _ h k => k ▸ h) (i := 2) (oi := { dst := some 171, op := _, type := _, pos := _, after := _, guard := _ }) (v := ?_) rfl (by kernel_rfl) (by kernel_rfl) (by kernel_rfl) (fun _ _ _ h => h) (Or.inl (Or.inl ⟨by rfl, ?_⟩)) hS ?_
                          rotate_left
                          focus ((intro w hSw; (try dsimp only at hSw); have f1 := hSw.cell HF1.out; have f2 := hSw.cell HF2.out; have f3 := hSw.cell HF3.out; have f4 := hSw.cell HF4.out; have f5 := hSw.cell HF5.out; have f6 := hSw.cell HF6.out; go_simp); (try with_reducible rfl))
                          intro wq' hwq
                          subst hwq
                          (try simp only [Act.put, List.setIfInBounds_toArray, List.set_cons_zero, List.set_cons_succ])
                          refine wpAnyK_take (fun _ => rfl) (fun _ _ _ h k => h.trans k) (fun _ _ h k => k ▸ h) (i := 3) (oi := { dst := some 172, op := _, type := _, pos := _, after := _, guard := _ }) (v := ?_) rfl (by kernel_rfl) (by kernel_rfl) (by kernel_rfl) (fun _ _ _ h => h) (Or.inl (Or.inl ⟨by rfl, ?_⟩)) hS ?_
                          rotate_left
                          focus ((intro w hSw; (try dsimp only at hSw); have f1 := hSw.cell HF1.out; have f2 := hSw.cell HF2.out; have f3 := hSw.cell HF3.out; have f4 := hSw.cell HF4.out; have f5 := hSw.cell HF5.out; have f6 := hSw.cell HF6.out; go_simp); (try with_reducible rfl))
                          intro wq' hwq
                          subst hwq
                          (try simp only [Act.put, List.setIfInBounds_toArray, List.set_cons_zero, List.set_cons_succ])
                          refine wpAnyK_take (fun _ => rfl) (fun _ _ _ h k => h.trans k) (fun _ _ h k => k ▸ h) (i := 4) (oi := { dst := some 173, op := _, type := _, pos := _, after := _, guard := _ }) (v := ?_) rfl (by kernel_rfl) (by kernel_rfl) (by kernel_rfl) (fun _ _ _ h => h) (Or.inl (Or.inl ⟨by rfl, ?_⟩)) hS ?_
                          rotate_left
                          focus ((intro w hSw; (try dsimp only at hSw); have f1 := hSw.cell HF1.out; have f2 := hSw.cell HF2.out; have f3 := hSw.cell HF3.out; have f4 := hSw.cell HF4.out; have f5 := hSw.cell HF5.out; have f6 := hSw.cell HF6.out; go_simp); (try with_reducible rfl))
                          intro wq' hwq
                          subst hwq
                          (try simp only [Act.put, List.setIfInBounds_toArray, List.set_cons_zero, List.set_cons_succ])
                          refine wpAnyK_take (fun _ => rfl) (fun _ _ _ h k => h.trans k) (fun _ _ h k => k ▸ h) (i := 5) (oi := { dst := some 174, op := _, type := _, pos := _, after := _, guard := _ }) (v := ?_) rfl (by kernel_rfl) (by kernel_rfl) (by kernel_rfl) (fun _ _ _ h => h) (Or.inl (Or.inl ⟨by rfl, ?_⟩)) hS ?_
                          rotate_left
                          focus ((intro w hSw; (try dsimp only at hSw); have f1 := hSw.cell HF1.out; have f2 := hSw.cell HF2.out; have f3 := hSw.cell HF3.out; have f4 := hSw.cell HF4.out; have f5 := hSw.cell HF5.out; have f6 := hSw.cell HF6.out; go_simp); (try with_reducible rfl))
                          intro wq' hwq
                          subst hwq
                          (try simp only [Act.put, List.setIfInBounds_toArray, List.set_cons_zero, List.set_cons_succ])
                          refine wpAnyK_take (fun _ => rfl) (fun _ _ _ h k => h.trans k) (fun _ _ h k => k ▸ h) (i := 6) (oi := { dst := some 175, op := _, type := _, pos := _, after := _, guard := _ }) (v := ?_) rfl (by kernel_rfl) (by kernel_rfl) (by kernel_rfl) (fun _ _ _ h => h) (Or.inl (Or.inl ⟨by rfl, ?_⟩)) hS ?_
                          rotate_left
                          focus ((intro w hSw; (try dsimp only at hSw); have f1 := hSw.cell HF1.out; have f2 := hSw.cell HF2.out; have f3 := hSw.cell HF3.out; have f4 := hSw.cell HF4.out; have f5 := hSw.cell HF5.out; have f6 := hSw.cell HF6.out; go_simp); (try with_reducible rfl))
                          intro wq' hwq
                          subst hwq
                          (try simp only [Act.put, List.setIfInBounds_toArray, List.set_cons_zero, List.set_cons_succ])
                          refine wpAnyK_take (fun _ => rfl) (fun _ _ _ h k => h.trans k) (fun _ _ h k => k ▸ h) (i := 7) (oi := { dst := some 176, op := _, type := _, pos := _, after := _, guard := _ }) (v := ?_) rfl (by kernel_rfl) (by kernel_rfl) (by kernel_rfl) (fun _ _ _ h => h) (Or.inl (Or.inl ⟨by rfl, ?_⟩)) hS ?_
                          rotate_left
                          focus ((intro w hSw; (try dsimp only at hSw); have f1 := hSw.cell HF1.out; have f2 := hSw.cell HF2.out; have f3 := hSw.cell HF3.out; have f4 := hSw.cell HF4.out; have f5 := hSw.cell HF5.out; have f6 := hSw.cell HF6.out; go_simp); (try with_reducible rfl))
                          intro wq' hwq
                          subst hwq
                          (try simp only [Act.put, List.setIfInBounds_toArray, List.set_cons_zero, List.set_cons_succ])
                          refine wpAnyK_take (fun _ => rfl) (fun _ _ _ h k => h.trans k) (fun _ _ h k => k ▸ h) (i := 8) (oi := { dst := some 177, op := _, type := _, pos := _, after := _, guard := _ }) (v := ?_) rfl (by kernel_rfl) (by kernel_rfl) (by kernel_rfl) (fun _ _ _ h => h) (Or.inl (Or.inl ⟨by rfl, ?_⟩)) hS ?_
                          rotate_left
                          focus ((intro w hSw; (try dsimp only at hSw); have f1 := hSw.cell HF1.out; have f2 := hSw.cell HF2.out; have f3 := hSw.cell HF3.out; have f4 := hSw.cell HF4.out; have f5 := hSw.cell HF5.out; have f6 := hSw.cell HF6.out; go_simp); (try with_reducible rfl))
                          intro wq' hwq
                          subst hwq
                          (try simp only [Act.put, List.setIfInBounds_toArray, List.set_cons_zero, List.set_cons_succ])
                          refine wpAnyK_take (fun _ => rfl) (fun _ _ _ h k => h.trans k) (fun _ _ h k => k ▸ h) (i := 9) (oi := { dst := some 178, op := _, type := _, pos := _, after := _, guard := _ }) (v := ?_) rfl (by kernel_rfl) (by kernel_rfl) (by kernel_rfl) (fun _ _ _ h => h) (Or.inl (Or.inl ⟨by rfl, ?_⟩)) hS ?_
                          rotate_left
                          focus ((intro w hSw; (try dsimp only at hSw); have f1 := hSw.cell HF1.out; have f2 := hSw.cell HF2.out; have f3 := hSw.cell HF3.out; have f4 := hSw.cell HF4.out; have f5 := hSw.cell HF5.out; have f6 := hSw.cell HF6.out; go_simp); (try with_reducible rfl))
                          intro wq' hwq
                          subst hwq
                          (try simp only [Act.put, List.setIfInBounds_toArray, List.set_cons_zero, List.set_cons_succ])
                          refine wpAnyK_take (fun _ => rfl) (fun _ _ _ h k => h.trans k) (fun _ _ h k => k ▸ h) (i := 10) (oi := { dst := some 179, op := _, type := _, pos := _, after := _, guard := _ }) (v := ?_) rfl (by kernel_rfl) (by kernel_rfl) (by kernel_rfl) (fun _ _ _ h => h) (Or.inl (Or.inl ⟨by rfl, ?_⟩)) hS ?_
                          rotate_left
                          focus ((intro w hSw; (try dsimp only at hSw); have f1 := hSw.cell HF1.out; have f2 := hSw.cell HF2.out; have f3 := hSw.cell HF3.out; have f4 := hSw.cell HF4.out; have f5 := hSw.cell HF5.out; have f6 := hSw.cell HF6.out; go_simp); (try with_reducible rfl))
                          intro wq' hwq
                          subst hwq
                          (try simp only [Act.put, List.setIfInBounds_toArray, List.set_cons_zero, List.set_cons_succ])
                          refine wpAnyK_take (fun _ => rfl) (fun _ _ _ h k => h.trans k) (fun _ _ h k => k ▸ h) (i := 11) (oi := { dst := some 180, op := _, type := _, pos := _, after := _, guard := _ }) (v := ?_) rfl (by kernel_rfl) (by kernel_rfl) (by kernel_rfl) (fun _ _ _ h => h) (Or.inl (Or.inl ⟨by rfl, ?_⟩)) hS ?_
                          rotate_left
                          focus ((intro w hSw; (try dsimp only at hSw); have f1 := hSw.cell HF1.out; have f2 := hSw.cell HF2.out; have f3 := hSw.cell HF3.out; have f4 := hSw.cell HF4.out; have f5 := hSw.cell HF5.out; have f6 := hSw.cell HF6.out; go_simp); (try with_reducible rfl))
                          intro wq' hwq
                          subst hwq
                          (try simp only [Act.put, List.setIfInBounds_toArray, List.set_cons_zero, List.set_cons_succ])
                          refine wpAnyK_take (fun _ => rfl) (fun _ _ _ h k => h.trans k) (fun _ _ h k => k ▸ h) (i := 12) (oi := { dst := some 181, op := _, type := _, pos := _, after := _, guard := _ }) (v := ?_) rfl (by kernel_rfl) (by kernel_rfl) (by kernel_rfl) (fun _ _ _ h => h) (Or.inl (Or.inl ⟨by rfl, ?_⟩)) hS ?_
                          rotate_left
                          focus ((intro w hSw; (try dsimp only at hSw); have f1 := hSw.cell HF1.out; have f2 := hSw.cell HF2.out; have f3 := hSw.cell HF3.out; have f4 := hSw.cell HF4.out; have f5 := hSw.cell HF5.out; have f6 := hSw.cell HF6.out; go_simp); (try with_reducible rfl))
                          intro wq' hwq
                          subst hwq
                          (try simp only [Act.put, List.setIfInBounds_toArray, List.set_cons_zero, List.set_cons_succ])
                          refine wpAnyK_all (rs := [13]) (by kernel_rfl) (by simp) (fun i hi => ?_)
                          simp only [List.mem_cons, List.not_mem_nil, or_false] at hi
                          subst hi
                          refine stepK (o := { dst := some 182, op := _, type := _, pos := _, after := _, guard := _ }) rfl (fun K hK => ?_)
                          go_simp
                          obtain ⟨gl, hgl⟩ : ∃ x, wd.heap.size = x := ⟨_, rfl⟩
                          obtain ⟨wl, hwl⟩ : ∃ x, wd.alloc (.cells #[.int .i64 t, .int .i64 i, .string s] 26) = x := ⟨_, rfl⟩
                          have ll : Later wd wl := hwl ▸ Later.new _ _
                          have HLT := Lib.hid (show Has wl (some ⟨gl, 0, none⟩) (fl [(t, i, s)]) from hwl ▸ (Blk.new wd [Value.int .i64 t, Value.int .i64 i, Value.string s].toArray 26 gl hgl.symm).has)
                          have HOL := Lib.hid (own_later HOD.out ll)
                          try rw [hgl]
                          rw [hwl]
                          replace hS : Later ws wl := hS.trans ll
                          refine hK _ _ hS ?_
                          clear hwl hgl ll HOD
                          intro wq' hwq
                          subst hwq
                          clear hK
                          (try simp only [Act.put, List.setIfInBounds_toArray, List.set_cons_zero, List.set_cons_succ])
                          refine wpAnyK_all (rs := [14]) (by kernel_rfl) (by simp) (fun i hi => ?_)
                          simp only [List.mem_cons, List.not_mem_nil, or_false] at hi
                          subst hi
                          refine stepK (o := { dst := some 183, op := _, type := _, pos := _, after := _, guard := _ }) rfl (fun K hK => ?_)
                          refine step_append_n rfl (.tmp 169) (.tmp 182) 56 rfl ws.heap.size 26 _ 3 32 Tryd.underlying56 info_v rfl (by decide) _ n _ rfl HOL.out (some ⟨gl, 0, none⟩) 1 1 (fl [(t, i, s)]) rfl HLT.out rfl (fun h => by cases h) (fl_one _) (by unfold maxLen; omega) (by omega) hS.size ?_
                          rintro A' c' wz ho hgr hbl hnl
                          have HO2 := Lib.hid ho
                          have HN2 := Lib.hid hnl
                          replace hS : Later ws wz := Later.of (hS.below.trans hbl)
                          refine hK _ _ hS ?_
                          clear ho hgr hbl hnl HLT HOL
                          intro wq' hwq
                          subst hwq
                          clear hK
                          (try simp only [Act.put, List.setIfInBounds_toArray, List.set_cons_zero, List.set_cons_succ])
                          refine wpAnyK_take (fun _ => rfl) (fun _ _ _ h k => h.trans k) (fun _ _ h k => k ▸ h) (i := 15) (oi := { dst := some 21, op := _, type := _, pos := _, after := _, guard := _ }) (v := ?_) rfl (by kernel_rfl) (by kernel_rfl) (by kernel_rfl) (fun _ _ _ h => h) (Or.inl (Or.inl ⟨by rfl, ?_⟩)) hS ?_
                          rotate_left
                          focus ((intro w hSw; (try dsimp only at hSw); skip; go_simp); (try with_reducible rfl))
                          intro wq' hwq
                          subst hwq
                          (try simp only [Act.put, List.setIfInBounds_toArray, List.set_cons_zero, List.set_cons_succ])
                          refine wpAnyK_done (by kernel_rfl) ?_ _
                          have HLZ := Lib.hid hS
                          clear hS
                          go_wp2_with fail
                          go_roundw
                          case rel =>
                            refine R2I.mk _ (j + 1) _ _ _ (xs ++ [(t, i, s)]) ?_ hltj ?_ HXN.out.symm ?_ HN2.out HLZ.out
                            · omega
                            · have := HNJ.out; omega
                            · rw [fl_append]; exact HO2.out
                          case measure => simp [intOf]; omega
                        · have hjb : j = bys.length := by omega
                          obtain ⟨heads, hheads⟩ : ∃ h, bys.map (fun c => cellAt cols c p0) = h := ⟨_, rfl⟩
                          have HXF := Lib.hid (show xs = heads from by rw [HXS.out, hjb, List.take_length, hheads])
                          have HRE := Lib.hid (fun vs h => show rowE cols bys aggs ps = .ok (heads ++ vs) from by rw [rowE_ok (vs := vs) h, hp0, hheads])
                          have HK0 := Lib.hid (R2I.mk (F := fun j _ xs => ∃ vs, xs = heads ++ vs ∧ mapE (fun a : Int × Int => ofA cols ps a.1 a.2) (aggs.take j) = .ok vs) (M := aggs.length) (N0 := bys.length) (ws := ws) (wr := wr) 0 0 Q n qc xs rfl (Nat.zero_le _) (by have := HNJ.out; omega) ⟨[], by rw [HXF.out, List.append_nil], rfl⟩ HOWN.out HNIL.out lat)
                          clear hheads hjb HXS HOWN HNIL HNJ HL2 HXF lat hn1
                          go_wp2_with fail
                          go_loopw [21, 23] (fun rv iv wr => R2I (fun j _ xs => ∃ vs, xs = heads ++ vs ∧ mapE (fun a : Int × Int => ofA cols ps a.1 a.2) (aggs.take j) = .ok vs) aggs.length bys.length ws rv iv wr) (fun _ i _ => aggs.length - (intOf i).toNat)
                          case atStart => exact HK0.out
                          case round =>
                            obtain ⟨m, Q, n, qc, xs, rfl, rfl, hm, hnm, ⟨vs, hxs, hvs⟩, hown, hnil, lat⟩ := hrel
                            have HOWN := Lib.hid hown
                            have HNIL := Lib.hid hnil
                            have HXS := Lib.hid hxs
                            have HVS := Lib.hid hvs
                            have HNM := Lib.hid hnm
                            have HL2 := Lib.hid lat
                            have hn1 : n ≤ 2000 := by omega
                            clear HK0 hown hnil hxs hvs hnm
                            by_cases hltm : m < aggs.length
                            · obtain ⟨ab, ao, hGA, c0, c1⟩ := (HGW.out.later lat).fa m hltm
                              subst hGA
                              have haok := HOK.out.2 _ (List.getElem_mem hltm)
                              have HMA := Lib.hid (fun (v : Val3) (h : ofA cols ps aggs[m].1 aggs[m].2 = .ok v) => mapE_ok (f := fun a : Int × Int => ofA cols ps a.1 a.2) hltm HVS.out h)
                              have HMN := Lib.hid (fun (e : Int) (h : ofA cols ps aggs[m].1 aggs[m].2 = .error e) => mapE_no (f := fun a : Int × Int => ofA cols ps a.1 a.2) hltm HVS.out h)
                              obtain ⟨k1, k2, k3, k4⟩ := haok
                              generalize aggs[m].1 = op at c0 HMA HMN k1 k2 k4
                              generalize aggs[m].2 = at_ at c1 HMA HMN k3 k4
                              have HLR := Lib.hid (show ∀ s ∈ ps.map (rowOf rs), s.l.length = zs.length ∧ ∀ x ∈ s.l, -9223372036854775808 ≤ x.2.1 ∧ x.2.1 ≤ 9223372036854775807 from fun s hs => by
                                obtain ⟨p, hp, rfl⟩ := List.mem_map.1 hs
                                have hpN := HGM.out.2 p hp
                                rw [rowOf_l HRS.out hpN]
                                refine ⟨by rw [rowAt_len]; exact HCL.out, fun x hx => ?_⟩
                                unfold rowAt at hx
                                obtain ⟨cl, hcl, rfl⟩ := List.mem_map.1 hx
                                rw [← HCC.out] at hcl
                                obtain ⟨z, hz, rfl⟩ := List.mem_map.1 hcl
                                rw [List.getD_eq_getElem?_getD]
                                rcases hq : z.l[p]? with _ | y
                                · simp
                                · exact H64.out z hz y (List.mem_of_getElem? hq))
                              have hro : (ps.map (rowOf rs)).map (·.l) = ps.map (rowAt cols) := by
                                rw [List.map_map]
                                exact List.map_congr_left fun p hp => rowOf_l HRS.out (HGM.out.2 p hp)
                              obtain ⟨x1, x2, x3, en, hout, hkon⟩ := oneE_konst (ofA cols ps op at_) (fun n h => by rw [← one_of (cols := cols) (by rw [HCL.out]; exact k3)] at h; exact oneE_err h)
                              have HOUT := Lib.hid hout
                              have HC := Lib.hid (fun (W : World) (l : Later wr W) => show Calls Tryd.prog 42 #[.slice ga ps.length gcc, .agg #[.int .i64 op, .int .i64 at_]] W (fun e w' => e = .returned (.tuple #[.agg #[.int .i64 x1, .int .i64 x2, .string x3], .int .i64 en]) ∧ Later W w') from by
                                refine (refOne_any ga ps.length gcc (ps.map (rowOf rs)) op at_ W (by rw [List.length_map]) (by omega) (grp_rows (HRW.out.later (lat.trans l)) HGM.out.2 (HGP.out.later (lat.trans l))) (fun s hs => (HLR.out s hs).2) ⟨k1, k2⟩ (fun h => by rcases k4 with k4 | k4; omega; exact k4) (fun s hs => by rw [(HLR.out s hs).1]; exact k3)).mono ?_
                                intro e w' h
                                rw [hro, one_of (by rw [HCL.out]; exact k3)] at h
                                exact hkon _ _ _ h)
                              have HF1 := Lib.hid (lat.cell HCG.out)
                              have HF2 := Lib.hid c0
                              have HF3 := Lib.hid c1
                              have hkz : (k : Int) < (RR.length : Int) := by omega
                              have hmz : (m : Int) < (aggs.length : Int) := by omega
                              clear c0 c1 k1 k2 k3 k4 hkon hout hro HLR lat
                              go_upto_region 42 with fail
                              go_cut [24, 25] from 190 to 201 (fun v1 v2 wx => ∃ gv, v1 = .pointer (some ⟨gv, 0, none⟩) ∧ v2 = .int .i64 en ∧ Blk wx gv #[.int .i64 x1, .int .i64 x2, .string x3] 26 ∧ Later wr wx)
                              case first => as_aux_lemma =>
                                refine wp_region_K (S := fun W : World => Later wr W) (R := Later) (fun _ => Later.refl _) (by kernel_rfl) ?_
                                have hS : (fun W : World => Later wr W) wr.drew := (Later.refl wr).drew
                                refine wpAnyK_take Later.refl (fun _ _ _ h k => h.trans k) (fun _ _ h k => h.trans k) (i := 0) (oi := { dst := some 191, op := _, type := _, pos := _, after := _, guard := _ }) (v := ?_) rfl (by kernel_rfl) (by kernel_rfl) (by kernel_rfl) (fun _ _ _ h => h) (Or.inl (Or.inl ⟨by rfl, ?_⟩)) hS ?_
                                rotate_left
                                focus ((intro w hSw; (try dsimp only at hSw); have f1 := hSw.cell HF1.out; have f2 := hSw.cell HF2.out; have f3 := hSw.cell HF3.out; go_simp); (try with_reducible rfl))
                                intro wq hwq
                                replace hS := hS.trans hwq
                                (try simp only [Act.put, List.setIfInBounds_toArray, List.set_cons_zero, List.set_cons_succ])
                                clear hwq
                                refine wpAnyK_take Later.refl (fun _ _ _ h k => h.trans k) (fun _ _ h k => h.trans k) (i := 1) (oi := { dst := some 192, op := _, type := _, pos := _, after := _, guard := _ }) (v := ?_) rfl (by kernel_rfl) (by kernel_rfl) (by kernel_rfl) (fun _ _ _ h => h) (Or.inl (Or.inl ⟨by rfl, ?_⟩)) hS ?_
                                rotate_left
                                focus ((intro w hSw; (try dsimp only at hSw); have f1 := hSw.cell HF1.out; have f2 := hSw.cell HF2.out; have f3 := hSw.cell HF3.out; go_simp); (try with_reducible rfl))
                                intro wq hwq
                                replace hS := hS.trans hwq
                                (try simp only [Act.put, List.setIfInBounds_toArray, List.set_cons_zero, List.set_cons_succ])
                                clear hwq
                                refine wpAnyK_take Later.refl (fun _ _ _ h k => h.trans k) (fun _ _ h k => h.trans k) (i := 2) (oi := { dst := some 193, op := _, type := _, pos := _, after := _, guard := _ }) (v := ?_) rfl (by kernel_rfl) (by kernel_rfl) (by kernel_rfl) (fun _ _ _ h => h) (Or.inl (Or.inl ⟨by rfl, ?_⟩)) hS ?_
                                rotate_left
                                focus ((intro w hSw; (try dsimp only at hSw); have f1 := hSw.cell HF1.out; have f2 := hSw.cell HF2.out; have f3 := hSw.cell HF3.out; go_simp); (try with_reducible rfl))
                                intro wq hwq
                                replace hS := hS.trans hwq
                                (try simp only [Act.put, List.setIfInBounds_toArray, List.set_cons_zero, List.set_cons_succ])
                                clear hwq
                                refine wpAnyK_take Later.refl (fun _ _ _ h k => h.trans k) (fun _ _ h k => h.trans k) (i := 3) (oi := { dst := some 194, op := _, type := _, pos := _, after := _, guard := _ }) (v := ?_) rfl (by kernel_rfl) (by kernel_rfl) (by kernel_rfl) (fun _ _ _ h => h) (Or.inl (Or.inl ⟨by rfl, ?_⟩)) hS ?_
                                rotate_left
                                focus ((intro w hSw; (try dsimp only at hSw); have f1 := hSw.cell HF1.out; have f2 := hSw.cell HF2.out; have f3 := hSw.cell HF3.out; go_simp); (try with_reducible rfl))
                                intro wq hwq
                                replace hS := hS.trans hwq
                                (try simp only [Act.put, List.setIfInBounds_toArray, List.set_cons_zero, List.set_cons_succ])
                                clear hwq
                                refine wpAnyK_take Later.refl (fun _ _ _ h k => h.trans k) (fun _ _ h k => h.trans k) (i := 4) (oi := { dst := some 195, op := _, type := _, pos := _, after := _, guard := _ }) (v := ?_) rfl (by kernel_rfl) (by kernel_rfl) (by kernel_rfl) (fun _ _ _ h => h) (Or.inl (Or.inl ⟨by rfl, ?_⟩)) hS ?_
                                rotate_left
                                focus ((intro w hSw; (try dsimp only at hSw); have f1 := hSw.cell HF1.out; have f2 := hSw.cell HF2.out; have f3 := hSw.cell HF3.out; go_simp); (try with_reducible rfl))
                                intro wq hwq
                                replace hS := hS.trans hwq
                                (try simp only [Act.put, List.setIfInBounds_toArray, List.set_cons_zero, List.set_cons_succ])
                                clear hwq
                                refine wpAnyK_take Later.refl (fun _ _ _ h k => h.trans k) (fun _ _ h k => h.trans k) (i := 5) (oi := { dst := some 196, op := _, type := _, pos := _, after := _, guard := _ }) (v := ?_) rfl (by kernel_rfl) (by kernel_rfl) (by kernel_rfl) (fun _ _ _ h => h) (Or.inl (Or.inl ⟨by rfl, ?_⟩)) hS ?_
                                rotate_left
                                focus ((intro w hSw; (try dsimp only at hSw); have f1 := hSw.cell HF1.out; have f2 := hSw.cell HF2.out; have f3 := hSw.cell HF3.out; go_simp); (try with_reducible rfl))
                                intro wq hwq
                                replace hS := hS.trans hwq
                                (try simp only [Act.put, List.setIfInBounds_toArray, List.set_cons_zero, List.set_cons_succ])
                                clear hwq
                                refine wpAnyK_take Later.refl (fun _ _ _ h k => h.trans k) (fun _ _ h k => h.trans k) (i := 6) (oi := { dst := some 197, op := _, type := _, pos := _, after := _, guard := _ }) (v := ?_) rfl (by kernel_rfl) (by kernel_rfl) (by kernel_rfl) (fun _ _ _ h => h) (Or.inl (Or.inl ⟨by rfl, ?_⟩)) hS ?_
                                rotate_left
                                focus ((intro w hSw; (try dsimp only at hSw); have f1 := hSw.cell HF1.out; have f2 := hSw.cell HF2.out; have f3 := hSw.cell HF3.out; go_simp); (try with_reducible rfl))
                                intro wq hwq
                                replace hS := hS.trans hwq
                                (try simp only [Act.put, List.setIfInBounds_toArray, List.set_cons_zero, List.set_cons_succ])
                                clear hwq
                                refine wpAnyK_take Later.refl (fun _ _ _ h k => h.trans k) (fun _ _ h k => h.trans k) (i := 7) (oi := { dst := some 198, op := _, type := _, pos := _, after := _, guard := _ }) (v := ?_) rfl (by kernel_rfl) (by kernel_rfl) (by kernel_rfl) (fun _ _ _ h => h) (Or.inl (Or.inl ⟨by rfl, ?_⟩)) hS ?_
                                rotate_left
                                focus ((intro w hSw; (try dsimp only at hSw); have f1 := hSw.cell HF1.out; have f2 := hSw.cell HF2.out; have f3 := hSw.cell HF3.out; go_simp); (try with_reducible rfl))
                                intro wq hwq
                                replace hS := hS.trans hwq
                                (try simp only [Act.put, List.setIfInBounds_toArray, List.set_cons_zero, List.set_cons_succ])
                                clear hwq
                                refine wpAnyK_take Later.refl (fun _ _ _ h k => h.trans k) (fun _ _ h k => h.trans k) (i := 8) (oi := { dst := some 199, op := _, type := _, pos := _, after := _, guard := _ }) (v := .tuple #[.agg #[.int .i64 x1, .int .i64 x2, .string x3], .int .i64 en]) rfl (by kernel_rfl) (by kernel_rfl) (by kernel_rfl) (fun _ _ _ h => h) (Or.inr ⟨by rfl, 42, #[.slice ga ps.length gcc, .agg #[.int .i64 op, .int .i64 at_]], fun W hW => ⟨?_, HC.out W hW⟩⟩) hS ?_
                                · first | rfl | (go_simp; done)
                                intro wq hwq
                                replace hS := hS.trans hwq
                                (try simp only [Act.put, List.setIfInBounds_toArray, List.set_cons_zero, List.set_cons_succ])
                                clear hwq
                                refine wpAnyK_take Later.refl (fun _ _ _ h k => h.trans k) (fun _ _ h k => h.trans k) (i := 9) (oi := { dst := some 190, op := _, type := _, pos := _, after := _, guard := _ }) (v := ?_) rfl (by kernel_rfl) (by kernel_rfl) (by kernel_rfl) (fun _ _ _ h => h) (Or.inl (Or.inl ⟨by rfl, ?_⟩)) hS ?_
                                rotate_left
                                focus ((intro w hSw; (try dsimp only at hSw); skip; go_simp); (try with_reducible rfl))
                                intro wq hwq
                                replace hS := hS.trans hwq
                                (try simp only [Act.put, List.setIfInBounds_toArray, List.set_cons_zero, List.set_cons_succ])
                                clear hwq
                                refine wpAnyK_take Later.refl (fun _ _ _ h k => h.trans k) (fun _ _ h k => h.trans k) (i := 10) (oi := { dst := some 200, op := _, type := _, pos := _, after := _, guard := _ }) (v := ?_) rfl (by kernel_rfl) (by kernel_rfl) (by kernel_rfl) (fun _ _ _ h => h) (Or.inl (Or.inl ⟨by rfl, ?_⟩)) hS ?_
                                rotate_left
                                focus ((intro w hSw; (try dsimp only at hSw); skip; go_simp); (try with_reducible rfl))
                                intro wq hwq
                                replace hS := hS.trans hwq
                                (try simp only [Act.put, List.setIfInBounds_toArray, List.set_cons_zero, List.set_cons_succ])
                                clear hwq
                                refine wpAnyK_take Later.refl (fun _ _ _ h k => h.trans k) (fun _ _ h k => h.trans k) (i := 11) (oi := { dst := some 201, op := _, type := _, pos := _, after := _, guard := _ }) (v := ?_) rfl (by kernel_rfl) (by kernel_rfl) (by kernel_rfl) (fun _ _ _ h => h) (Or.inl (Or.inl ⟨by rfl, ?_⟩)) hS ?_
                                rotate_left
                                focus ((intro w hSw; (try dsimp only at hSw); skip; go_simp); (try with_reducible rfl))
                                intro wq hwq
                                replace hS := hS.trans hwq
                                (try simp only [Act.put, List.setIfInBounds_toArray, List.set_cons_zero, List.set_cons_succ])
                                clear hwq
                                refine wpAnyK_all (rs := [12]) (by kernel_rfl) (by simp) (fun i hi => ?_)
                                simp only [List.mem_cons, List.not_mem_nil, or_false] at hi
                                subst hi
                                refine stepK (o := { dst := some 24, op := _, type := _, pos := _, after := _, guard := _ }) rfl (fun K hK => ?_)
                                go_simp
                                obtain ⟨gv, hgv⟩ : ∃ x, wq.heap.size = x := ⟨_, rfl⟩
                                have BV := Blk.new wq #[.int .i64 0, .int .i64 0, .string ⟨#[]⟩] 26 gv hgv.symm
                                have hgw : wr.heap.size ≤ gv := hgv ▸ hS.size
                                replace hS : Later wr (wq.alloc (.cells #[.int .i64 0, .int .i64 0, .string ⟨#[]⟩] 26)) := hS.alloc _
                                rw [hgv]
                                refine hK _ _ hS ?_
                                intro wz hwz
                                have BV := BV.later hwz
                                replace hS := hS.trans hwz
                                clear hK hwz hgv
                                (try simp only [Act.put, List.setIfInBounds_toArray, List.set_cons_zero, List.set_cons_succ])
                                refine wpAnyK_all (rs := [13]) (by kernel_rfl) (by simp) (fun i hi => ?_)
                                simp only [List.mem_cons, List.not_mem_nil, or_false] at hi
                                subst hi
                                refine stepK (o := { dst := none, op := _, type := _, pos := _, after := _, guard := _ }) rfl (fun K hK => ?_)
                                have q0 := BV.cell 0 _ rfl
                                have q1 := BV.cell 1 _ rfl
                                have q2 := BV.cell 2 _ rfl
                                have f0 := BV.frozen 0
                                have f1 := BV.frozen 1
                                have f2 := BV.frozen 2
                                go_simp
                                have B2 := three_blk BV rfl (.int .i64 x1) (.int .i64 x2) (.string x3)
                                have S2 := three_later hS hgw (.int .i64 x1) (.int .i64 x2) (.string x3)
                                refine hK _ _ S2 ?_
                                intro wy hwy
                                have B2 := B2.later hwy
                                have hS := S2.trans hwy
                                clear hK hwy S2 BV q0 q1 q2 f0 f1 f2
                                (try simp only [Act.put, List.setIfInBounds_toArray, List.set_cons_zero, List.set_cons_succ])
                                refine wpAnyK_take Later.refl (fun _ _ _ h k => h.trans k) (fun _ _ h k => h.trans k) (i := 14) (oi := { dst := some 25, op := _, type := _, pos := _, after := _, guard := _ }) (v := ?_) rfl (by kernel_rfl) (by kernel_rfl) (by kernel_rfl) (fun _ _ _ h => h) (Or.inl (Or.inl ⟨by rfl, ?_⟩)) hS ?_
                                rotate_left
                                focus ((intro w hSw; (try dsimp only at hSw); skip; go_simp); (try with_reducible rfl))
                                intro wq hwq
                                replace hS := hS.trans hwq
                                replace B2 := B2.later hwq
                                (try simp only [Act.put, List.setIfInBounds_toArray, List.set_cons_zero, List.set_cons_succ])
                                clear hwq
                                refine wpAnyK_done (by kernel_rfl) ?_ _
                                have HB2 := Lib.hid B2
                                have HS2 := Lib.hid hS
                                clear B2 hS
                                go_wp2_with fail
                                go_meet
                                exact ⟨gv, rfl, rfl, HB2.out, HS2.out⟩
                              case rest =>
                              obtain ⟨gv, rfl, rfl, hbv, lx⟩ := hcut
                              rcases HOUT.out with ⟨rfl, ho⟩ | ⟨ho, h45⟩
                              · have HMA2 := Lib.hid (HMA.out _ ho)
                                have HOX := Lib.hid (own_later HOWN.out lx)
                                have HLXX := Lib.hid (HL2.out.trans lx)
                                have q0 := hbv.cell 0 _ rfl
                                have q1 := hbv.cell 1 _ rfl
                                have q2 := hbv.cell 2 _ rfl
                                have HBK := Lib.hid (fun (wz : World) => Blk.new wz #[.int .i64 x1, .int .i64 x2, .string x3] 26 wz.heap.size rfl)
                                have HOB := Lib.hid (fun (o : Obj) => own_later HOX.out (Later.new wc o))
                                have hs1 := HLXX.out.size
                                clear hbv lx ho HMA HMN HC HOUT
                                go_wp2_with (at_builtin; refine wpList_append_g _ rfl (.tmp 205) (.tmp 207) 56 rfl ws.heap.size 26 _ 3 32 Tryd.underlying56 info_v rfl (by decide) _ n _ rfl (HOB.out _) _ 1 1 (fl [(x1, x2, x3)]) rfl (HBK.out wc).has rfl (by intro h; cases h) (fl_one _) (by unfold maxLen; omega) (by omega) (by simp; omega) ?_; rintro A' c' wq hO _ hbel hn2; have HO2 := Lib.hid hO; have HN2 := Lib.hid hn2; have HL3 := Lib.hid (Later.of ((HLXX.out.alloc _).below.trans hbel)); clear hO hn2 hbel)
                                go_roundw
                                case rel =>
                                  refine R2I.mk _ (m + 1) _ _ _ (xs ++ [(x1, x2, x3)]) ?_ hltm ?_ ⟨vs ++ [(x1, x2, x3)], ?_, HMA2.out⟩ ?_ HN2.out HL3.out
                                  · omega
                                  · have := HNM.out; omega
                                  · rw [HXS.out, List.append_assoc]
                                  · rw [fl_append]; exact HO2.out
                                case measure => simp [intOf]; omega
                              · have HMN2 := Lib.hid (HMNO.out en (rowE_no (HMN.out _ ho)))
                                have HNN := Lib.hid h45
                                have hen : (en != 0) = true := by rcases h45 with rfl | rfl <;> rfl
                                have HLXX := Lib.hid (HLX.out.trans (HLAT.out.trans (HL2.out.trans lx)))
                                have HGG := Lib.hid (show GroupsOf (colsOf zs) bys (heightC (colsOf zs)) RR from by rw [HCC.out, ← HNR.out]; exact HGO.out)
                                have HRR2 := Lib.hid (show runE (colsOf zs) bys aggs RR = .error en from by rw [HCC.out]; exact HMN2.out)
                                clear hbv lx ho HMA HMN HC HOUT
                                go_wp2_with fail
                                go_ret2
                                exact .inr ⟨HOK.out, RR, HGG.out, .inr ⟨en, HRR2.out, HNN.out, rfl, HLXX.out⟩⟩
                            · have HRW2 := Lib.hid (show rowE cols bys aggs ps = .ok xs from by
                                have h1 := HVS.out
                                rw [show m = aggs.length by omega, List.take_length] at h1
                                rw [HRE.out vs h1, HXS.out])
                              have HMK := Lib.hid (HMOK.out _ HRW2.out)
                              have HXL := Lib.hid (own_len HOWN.out)
                              have HOKX := Lib.hid (show (⟨Q, qc, xs⟩ : SlV).okX (Value.slice TT tn tc).ownBlock wr from SlV.okX.own HOWN.out (own_len HOWN.out) HNIL.out fun g hg => (HON.out.2.1.lt g hg).2)
                              have HRL := Lib.hid (show (⟨Q, qc, xs⟩ : SlV).v = .slice Q n qc from by rw [SlV.v_eq, ← HXL.out])
                              have HON2 := Lib.hid (HON.out.later lat)
                              have HLW := Lib.hid (HLAT.out.trans lat)
                              have HBK := Lib.hid (fun (wz : World) => Blk.new wz #[.slice Q n qc] 56 wz.heap.size rfl)
                              have HOA := Lib.hid (fun (o : Obj) => HON2.out.later (Later.new wr o))
                              have HOKA := Lib.hid (fun (o : Obj) => HOKX.out.later (Later.new wr o))
                              have HSZ := Lib.hid (show wb.heap.size ≤ wr.heap.size from HLW.out.size)
                              clear lat HVS HXS HOWN
                              go_wp2_with (at_builtin; refine wpList_append_x _ rfl (.tmp 209) (.tmp 211) 67 rfl wb.heap.size 56 _ 1 24 Tryd.underlying67 info_row rfl (by decide) _ tn _ rfl (HOA.out _).2.1 _ 0 1 1 [.slice Q n qc] rfl (HBK.out wr).has rfl (by intro u hu; rw [List.mem_singleton] at hu; subst hu; rfl) (by unfold maxLen; omega) (by omega) (by have := HSZ.out; simp; omega) ?_; rintro A' c' wq hO hgr hbel hat hn2; have HO2 := Lib.hid (RowsOn.more (s := ⟨Q, qc, xs⟩) (HOA.out _) (HOKA.out _) (by rw [HRL.out]; exact hO) hgr hat hn2); have HL2 := Lib.hid (Later.of ((HLW.out.alloc _).below.trans hbel)); clear hO hn2 hbel hgr hat)
                              go_roundw
                              case rel =>
                                refine RgI.mk _ (k + 1) _ _ _ (ors ++ [⟨Q, qc, xs⟩]) ?_ hlt ?_ ?_ HO2.out HL2.out
                                · omega
                                · have := HNK.out; omega
                                · rw [List.map_append]; exact HMK.out
                              case measure => simp [intOf]; omega
                    · have HF := Lib.hid (show runE (colsOf zs) bys aggs RR = .ok (ors.map (·.l)) from by
                        have := HMAP.out
                        rw [show k = RR.length by omega, List.take_length] at this
                        rw [HCC.out]; exact this)
                      have hat := HON.out.at_
                      have HAT := Lib.hid hat
                      have HLZ := Lib.hid (HLX.out.trans lat)
                      have HGG := Lib.hid (show GroupsOf (colsOf zs) bys (heightC (colsOf zs)) RR from by rw [HCC.out, ← HNR.out]; exact HGO.out)
                      clear hat lat
                      go_wp2_with fail
                      go_ret2
                      exact .inr ⟨HOK.out, RR, HGG.out, .inl ⟨TT, tc, ors, by rw [← HON.out.1]; rfl, HF.out, HAT.out.1, by rw [← HON.out.1]; exact HAT.out.2.1, HAT.out.2.2, HLZ.out⟩⟩
end Go.Proofs.YtkdpjocglfephaaDoor
