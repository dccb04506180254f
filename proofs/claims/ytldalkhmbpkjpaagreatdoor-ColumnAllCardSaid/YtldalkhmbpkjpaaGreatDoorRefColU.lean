/- The walk of the reference's TakeColumn, the other cases. -/
import Derived.Test.YtldalkhmbpkjpaaGreatDoorRefColT
namespace Go.Proofs.YtldalkhmbpkjpaaGreatDoor
open Go.RowKit
set_option linter.unusedVariables false

set_option maxRecDepth 100000 in
set_option maxHeartbeats 1500000 in
theorem refTakeColumn_zeroB (t : Int) (n : Nat) (bb off e : Nat) (w : World) (hn : n ≤ 1000) (hr : Has w (some ⟨bb, off, none⟩) (ints .u8 [e, 0])) (h256 : ∀ x ∈ [e, 0], x < 256) :
    Calls Tryz.prog 12 #[.int .i64 t, .int .i64 n, .slice (some ⟨bb, off, none⟩) 2 2] w (TakesCol (takeC10 t n [e, 0]) w) := by
  have he := h256 e (List.mem_cons_self ..)
  have H256 := Lib.hid h256
  have HR := Lib.hid hr
  obtain ⟨c0, c1⟩ : w.cell? ⟨bb, off, none⟩ = some (.int .u8 (e : Int)) ∧ w.cell? ⟨bb, off + 1, none⟩ = some (.int .u8 (0 : Int)) := by
    rcases hr with h | ⟨b', o', h, _, hc⟩
    · cases h
    · injection h with h
      injection h with h1 h2
      subst h1 h2
      exact ⟨hc 0 _ rfl, hc 1 _ rfl⟩
  have c1A : (w.alloc (.cells (madeCells #[.bool false] n) 4)).cell? ⟨bb, off + 1, none⟩ = some (.int .u8 (0 : Int)) := (Later.new w _).cell c1
  have HMB := Lib.hid (show 2 = [e, 0].length from rfl)
  have hew : IntKind.i64.wrap (e : Int) = (e : Int) := IntWalk.i64_in _ ⟨by omega, by omega⟩
  have hn0 : decide ((n : Int) < 0) = false := decide_eq_false (by omega)
  have hn1 : decide ((1000 : Int) < (n : Int)) = false := decide_eq_false (by omega)
  have hmk := fun W => run_make_row' (P := Tryz.prog) 46 4 (.bool false) 1 Tryz.underlying46 info_bool rfl .i64 .i64 n (by omega) (by omega) W
  obtain ⟨x, hx⟩ : ∃ x, x = List.replicate n false := ⟨_, rfl⟩
  obtain ⟨q, hq⟩ : ∃ q : List Nat, q = [] := ⟨_, rfl⟩
  obtain ⟨wT, hwT⟩ : ∃ wT, wT = w.alloc (.cells (madeCells #[.bool false] n) 4) := ⟨_, rfl⟩
  obtain ⟨gx, hgx⟩ : ∃ gx, gx = w.heap.size := ⟨_, rfl⟩
  have HWT := Lib.hid hwT
  have HGX := Lib.hid hgx
  have HXL := Lib.hid (show x.length = n by rw [hx]; exact List.length_replicate)
  have HXH := Lib.hid (show Has wT (some ⟨gx, 0, none⟩) (bools x) by rw [hwT, hgx, hx]; exact (Blk.madeB w n).hasB)
  have HLT := Lib.hid (show Later w wT by rw [hwT]; exact Later.new _ _)
  have HQ256 := Lib.hid (show ∀ y ∈ q, y < 256 by rw [hq]; exact fun y hy => by cases hy)
  have HEQ := Lib.hid (takeC10_eq (t := t) hn h256 HXL.out HQ256.out (.inl ⟨rfl, hx, hq⟩))
  have HQL := Lib.hid (show 0 = q.length by rw [hq]; rfl)
  have HQM := Lib.hid (show q.length ≤ 1000000 by rw [hq]; decide)
  have HQC := Lib.hid (show 0 ≤ 0 from Nat.le_refl _)
  have HQX := Lib.hid (show 0 ≤ 9223372036854775807 by decide)
  have HN9 := Lib.hid hn
  have HQH := Lib.hid (show Has wT (some ⟨bb, off, none⟩) (ints .u8 q) by rw [hq]; exact Has.nil_)
  obtain ⟨bl, hbl⟩ : ∃ bl, bl = [e, 0] := ⟨_, rfl⟩
  rw [← hbl] at HEQ HR HMB H256 ⊢
  clear hr h256 hx hq hwT hgx hn he hbl
  go_enter Tryz.func12, Tryz.ntmps12
  go_wp2_with fail
  clear hmk
  rw [← HWT.out, ← HGX.out]
  clear c0 c1 c1A
  go_loop [14, 15] (fun mv iv => ∃ j u : Nat, j ≤ n ∧ iv = .int .i64 j ∧ mv = .int .i64 u ∧ u = (x.take j).count false) (fun _ i => n - (intOf i).toNat)
  case atStart => exact ⟨0, 0, Nat.zero_le _, rfl, rfl, rfl⟩
  case round =>
    obtain ⟨j, u, hj, rfl, rfl, hu⟩ := hrel
    by_cases hlt : j < n
    · have hjx : j < x.length := by have := HXL.out; omega
      obtain ⟨xb, xo, hxa, hcell⟩ := HXH.out.boolAt j hjx
      injection hxa with hxa
      injection hxa with hx1 hx2
      subst hx1 hx2
      rw [Nat.zero_add] at hcell
      have HNX := Lib.hid (show (x.take (j + 1)).count false = (x.take j).count false + (if x[j] = false then 1 else 0) by
        rw [List.take_succ_eq_append_getElem hjx, List.count_append]
        cases x[j] <;> rfl)
      obtain ⟨y, hy⟩ : ∃ y, y = x[j] := ⟨_, rfl⟩
      rw [← hy] at hcell HNX
      have hj9 : j < 1000 := by have := HN9.out; omega
      have hu9 : u ≤ 1000 := by rw [hu]; exact Nat.le_trans List.count_le_length (by rw [List.length_take]; omega)
      have HU := Lib.hid hu
      clear hy hu hjx
      cases y
      · go_wp2_with fail
        go_round
        case rel => exact ⟨j + 1, u + 1, hlt, by go_num, by go_num, by rw [HNX.out, ← HU.out]; rfl⟩
        case measure => simp [intOf]; omega
      · go_wp2_with fail
        go_round
        case rel => exact ⟨j + 1, u, hlt, by go_num, rfl, by rw [HNX.out, ← HU.out]; rfl⟩
        case measure => simp [intOf]; omega
    · obtain rfl : j = n := by omega
      have hux : u = x.count false := by rw [hu, List.take_of_length_le (by have := HXL.out; omega)]
      have HDEC := Lib.hid (refDec_any (e : Int) t ((u : Nat) : Int) _ _ _ q _ HQL.out HQH.out HQ256.out HQM.out HQC.out HQX.out)
      have HUX := Lib.hid hux
      rw [← hux] at HEQ
      clear hu hux
      go_wp2_with fail
      refine HDEC.out.mono ?_
      clear HDEC
      intro e3 w3 h
      rcases takesV_copy h with ⟨hno, rfl, l3⟩ | ⟨s, S, cs, hyes, rfl, hsh, hsc, hscm, l3⟩
      · have HO := Lib.hid (HEQ.out.trans (by rw [hno]))
        have L3 := Lib.hid (HLT.out.trans l3)
        clear hno h l3
        go_wp2_with fail
        go_ret3
        exact ⟨.inl ⟨HO.out, rfl⟩, L3.out⟩
      · obtain ⟨hs64, hslen⟩ := decQ_is HQ256.out hyes
        have HO := Lib.hid (HEQ.out.trans (by rw [hyes]))
        have L3 := Lib.hid (HLT.out.trans l3)
        have HX3 := Lib.hid (HXH.out.later l3)
        have H64 := Lib.hid (mixL_64 x s hs64)
        have HSTART := Lib.hid (show TcInv x s w3.heap.size j w3 (.slice S s.length cs) (.slice none 0 0) (.int .i64 0) w3 from TcInv.mk S none s.length cs 0 0 0 [] s 0 rfl rfl (Nat.zero_le _) rfl hsc hscm (by rw [List.drop_zero]; have := HUX.out; omega) rfl rfl hsh (ownG_nil _ _ _ _) (Later.refl _))
        clear h hyes hs64 hslen hsh hsc hscm l3 HQH HXH HEQ
        go_wp2_with fail
        go_loopw [16, 18, 19] (fun sv lv iv wr => TcInv x s w3.heap.size j w3 sv lv iv wr) (fun _ _ iv _ => j - (intOf iv).toNat)
        case atStart => exact HSTART.out
        case round =>
          clear HSTART
          obtain ⟨S', L, ns, cs', cl, k, done, sr, rfl, rfl, rfl, hk, hns, hcc, hcm, hcnt, hdl, hmix, hhas, hown, lat⟩ := hrel
          have HNS := Lib.hid hns
          have HCNT := Lib.hid hcnt
          have HDL := Lib.hid hdl
          have HMIX := Lib.hid hmix
          have HHAS := Lib.hid hhas
          have HOWN := Lib.hid hown
          have HLAT := Lib.hid lat
          clear hns hcnt hdl hmix hhas hown
          by_cases hlt2 : k < j
          · have hkx : k < x.length := by have := HXL.out; omega
            obtain ⟨xb, xo, hxa, hcell⟩ := (HX3.out.later lat).boolAt k hkx
            injection hxa with hxa
            injection hxa with hx1 hx2
            subst hx1 hx2
            rw [Nat.zero_add] at hcell
            have HDR := Lib.hid (drop_at hkx)
            obtain ⟨y, hy⟩ : ∃ y, y = x[k] := ⟨_, rfl⟩
            rw [← hy] at hcell HDR
            have hk9 : k < 1000 := by have := HN9.out; omega
            have hkj : (k : Int) < (j : Int) := by omega
            obtain ⟨wa, hwa⟩ : ∃ wa, wa = wr.alloc (.cells #[.int .i64 0, .int .i64 0, .string ⟨#[]⟩] 26) := ⟨_, rfl⟩
            obtain ⟨gv, hgv⟩ : ∃ gv, gv = wr.heap.size := ⟨_, rfl⟩
            have LA : Later wr wa := hwa ▸ Later.new _ _
            have hcellA : wa.cell? ⟨gx, k, none⟩ = some (.bool y) := LA.cell hcell
            have BV : Blk wa gv #[.int .i64 0, .int .i64 0, .string ⟨#[]⟩] 26 := by rw [hwa, hgv]; exact Blk.new wr _ _ _ rfl
            have HBV := Lib.hid BV
            have HWA := Lib.hid hwa
            have HGV := Lib.hid hgv
            have HLA := Lib.hid LA
            rw [hwa] at hcellA
            clear hy hcell LA BV hwa hgv hkx
            cases y with
            | true =>
              have HBB := (Blk.new wr #[.int .i64 0, .int .i64 0, .string ⟨#[]⟩] 26 _ rfl)
              have v0 := HBB.cell 0 _ rfl
              have v1 := HBB.cell 1 _ rfl
              have v2 := HBB.cell 2 _ rfl
              have HAS := Lib.hid ((Blk.new (wr.alloc (.cells #[.int .i64 0, .int .i64 0, .string ⟨#[]⟩] 26)) (fl [zV]).toArray 26 (wr.heap.size + 1) (by simp)).has)
              have LT := Lib.hid ((HLAT.out.alloc (.cells #[.int .i64 0, .int .i64 0, .string ⟨#[]⟩] 26)).alloc (.cells (fl [zV]).toArray 26))
              clear HBB lat
              go_wp2_with (at_builtin; refine wpList_append_g _ rfl (.tmp 114) (.tmp 116) 23 rfl w3.heap.size 26 (vagg 0 0 ⟨#[]⟩) 3 32 Tryz.underlying23 info_v rfl (by decide) _ k (fl done) rfl ((HOWN.out.alloc _).alloc _) _ 1 1 (fl [zV]) rfl HAS.out (by rfl) (by intro h; cases h) (fl_one _) (by unfold maxLen; omega) (by omega) LT.out.size ?_; intro A2 c2 w7 o2 g2 b2 n2; have HO2 := Lib.hid o2; have HL7 := Lib.hid (Later.of (LT.out.below.trans b2)); clear o2 g2 b2 n2)
              go_roundw
              case rel =>
                refine TcInv.mk S' A2 ns cs' c2 (k + 1) _ (done ++ [zV]) sr _ rfl (by omega) hlt2 HNS.out hcc hcm ?_ (by rw [List.length_append, HDL.out]; rfl) ?_ HHAS.out (by rw [fl_append]; exact HO2.out) HL7.out
                · have h := HCNT.out
                  rw [HDR.out] at h
                  simpa using h
                · have h := HMIX.out
                  rw [HDR.out] at h
                  rw [← h, List.append_assoc]
                  rfl
              case measure => simp [intOf]; omega
            | false =>
              match sr, HNS, HMIX, HHAS with
              | [], HNS, HMIX, HHAS =>
                exfalso
                have h := HCNT.out
                rw [HDR.out] at h
                have := HNS.out
                simp at h this
                omega
              | v :: sr', HNS, HMIX, HHAS =>
                obtain ⟨sb, so, rfl, c0, c1, c2⟩ := HHAS.out.val3 0 (by simp)
                simp only [List.getElem_cons_zero, Nat.zero_mul, Nat.add_zero] at c0 c1 c2
                have HH2 := Lib.hid (show Has w3 (if cs' = 1 then some ⟨sb, so, none⟩ else some ⟨sb, so + 3, none⟩) (fl sr') by
                  split
                  · have h0 : sr' = [] := List.eq_nil_of_length_eq_zero (by have := HNS.out; simp at this; omega)
                    rw [h0]; exact Has.nil_
                  · exact HHAS.out.drop 3)
                obtain ⟨vt, vi, vs⟩ := v
                dsimp only at c0 c1 c2
                have LWA := HLAT.out.trans HLA.out
                have a0 := LWA.cell c0
                have a1 := LWA.cell c1
                have a2 := LWA.cell c2
                have o0 := HBV.out.cell 0 _ rfl
                have o1 := HBV.out.cell 1 _ rfl
                have o2 := HBV.out.cell 2 _ rfl
                have f0 := HBV.out.frozen 0
                have f1 := HBV.out.frozen 1
                have f2 := HBV.out.frozen 2
                have HCN2 := Lib.hid (show (x.drop (k + 1)).count false = ns - 1 by
                  have h := HCNT.out
                  rw [HDR.out, List.count_cons_self] at h
                  omega)
                have HMX2 := Lib.hid (show (done ++ [(vt, vi, vs)]) ++ mixL (x.drop (k + 1)) sr' = mixL x s by
                  have h := HMIX.out
                  rw [HDR.out] at h
                  rw [← h, List.append_assoc]
                  rfl)
                have HNS2 := Lib.hid (show ns - 1 = sr'.length by have := HNS.out; simp at this; omega)
                have hns1 : 1 ≤ ns := by have := HNS.out; simp at this; omega
                have i1' : (1 : Int) ≤ (ns : Int) := by omega
                have i0' : (0 : Int) < (ns : Int) := by omega
                have i2' : (ns : Int) ≤ (cs' : Int) := by omega
                clear c0 c1 c2 LWA lat
                go_wp2_with fail
                rw [← HWA.out, ← HGV.out]
                go_region
                obtain ⟨wb, hwb⟩ : ∃ wb, wb = (((wa.setCell ⟨gv, 0, none⟩ (.int .i64 vt)).setCell ⟨gv, 1, none⟩ (.int .i64 vi)).setCell ⟨gv, 2, none⟩ (.string vs)).drew := ⟨_, rfl⟩
                have LB : Later wr wb := by rw [hwb]; exact (three_later HLA.out (by rw [HGV.out]; exact Nat.le_refl _) _ _ _).drew
                have BB : Blk wb gv #[.int .i64 vt, .int .i64 vi, .string vs] 26 := by rw [hwb]; exact (three_blk HBV.out rfl _ _ _).drew
                rw [← hwb]
                have v0 := BB.cell 0 _ rfl
                have v1 := BB.cell 1 _ rfl
                have v2 := BB.cell 2 _ rfl
                have OB := Lib.hid (own_later HOWN.out LB)
                have HAS := Lib.hid ((Blk.new wb (fl [(vt, vi, vs)]).toArray 26 _ rfl).has)
                have LT := Lib.hid ((HLAT.out.trans LB).alloc (.cells (fl [(vt, vi, vs)]).toArray 26))
                clear hwb LB BB a0 a1 a2 o0 o1 o2 f0 f1 f2
                go_wp2_with (at_builtin; refine wpList_append_g _ rfl (.tmp 114) (.tmp 116) 23 rfl w3.heap.size 26 (vagg 0 0 ⟨#[]⟩) 3 32 Tryz.underlying23 info_v rfl (by decide) _ k (fl done) rfl (OB.out.alloc _) _ 1 1 (fl [(vt, vi, vs)]) rfl HAS.out (by rfl) (by intro h; cases h) (fl_one _) (by unfold maxLen; omega) (by omega) LT.out.size ?_; intro A2 c2 w7 o2 g2 b2 n2; have HO2 := Lib.hid o2; have HL7 := Lib.hid (Later.of (LT.out.below.trans b2)); clear o2 g2 b2 n2)
                go_roundw
                case rel => exact TcInv.mk _ A2 (ns - 1) (cs' - 1) c2 (k + 1) _ (done ++ [(vt, vi, vs)]) sr' _ rfl (by omega) hlt2 HNS2.out (by omega) (by omega) HCN2.out (by rw [List.length_append, HDL.out]; rfl) HMX2.out HH2.out (by rw [fl_append]; exact HO2.out) HL7.out
                case measure => simp [intOf]; omega
          · obtain rfl : k = j := by omega
            have hmx : done = mixL x s := by
              have h := HMIX.out
              rw [List.drop_eq_nil_of_le (by have := HXL.out; omega), show mixL [] sr = [] from rfl, List.append_nil] at h
              exact h
            have hown := HOWN.out
            rw [hmx] at hown
            have HPC := Lib.hid (refPutColumn_any (e : Int) t L k cl (mixL x s) wr (by rw [mixL_len]; exact HXL.out.symm) (by rw [mixL_len, HXL.out]; exact HN9.out) (Has.ownG hown) H64.out)
            have HLH := Lib.hid (Has.ownG hown)
            have LY := Lib.hid (L3.out.trans lat)
            have HML := Lib.hid (show k = (mixL x s).length by rw [mixL_len]; exact HXL.out.symm)
            clear hmx hown lat
            go_wp2_with fail
            refine HPC.out.mono ?_
            clear HPC
            intro e4 w4 h
            rcases h with ⟨⟨hp, rfl⟩ | ⟨pb, C, cc, hp, rfl, ph, _, _, _⟩, l4⟩
            · have HO2 := Lib.hid (HO.out.trans (if_neg (by rw [hp]; simp)))
              have L4 := Lib.hid (LY.out.trans l4)
              clear hp l4
              go_wp2_with fail
              go_ret3
              exact ⟨.inl ⟨HO2.out, rfl⟩, L4.out⟩
            · have L4 := Lib.hid (LY.out.trans l4)
              have cv1 := conv_str C pb.length cc pb rfl w4 _ ph.rd
              have cv2 := conv_str (some ⟨bb, off, none⟩) 2 2 (bl) HMB.out w4 _ ((HR.out.later L4.out).rd)
              have HPL := Lib.hid (putC_lt (by rw [mixL_len, HXL.out]; exact HN9.out) H64.out hp)
              by_cases heq : pb = bl
              · have HO2 := Lib.hid (HO.out.trans (if_pos (by rw [hp, heq])))
                have HLH4 := Lib.hid (HLH.out.later l4)
                subst heq
                clear hp l4 ph
                go_wp2_with fail
                go_ret3
                refine ⟨.inr ⟨mixL x s, e, L, cl, HO2.out, ?_, HLH4.out⟩, L4.out⟩
                rw [← HML.out]
                rfl
              · have HO2 := Lib.hid (HO.out.trans (if_neg (by rw [hp]; intro h; injection h with h; exact heq h)))
                have hbn := bstr_ne HPL.out H256.out heq
                clear hp l4 ph heq
                go_wp2_with fail
                go_ret3
                exact ⟨.inl ⟨HO2.out, rfl⟩, L4.out⟩

set_option maxRecDepth 100000 in
set_option maxHeartbeats 1500000 in
theorem refTakeColumn_oneShort (t : Int) (n : Nat) (bb off m c e : Nat) (r : List Nat) (w : World) (hn : n ≤ 1000) (hm : m = r.length + 2) (hr : Has w (some ⟨bb, off, none⟩) (ints .u8 (e :: 1 :: r))) (h256 : ∀ x ∈ e :: 1 :: r, x < 256) (hb : r.length + 2 ≤ 1000000) (hbc : m ≤ c) (hc : c ≤ 9223372036854775807) (hle : r.length < (n + 7) / 8) :
    Calls Tryz.prog 12 #[.int .i64 t, .int .i64 n, .slice (some ⟨bb, off, none⟩) m c] w (TakesCol (takeC10 t n (e :: 1 :: r)) w) := by
  have he := h256 e (List.mem_cons_self ..)
  have H256 := Lib.hid h256
  have HR := Lib.hid hr
  obtain ⟨c0, c1⟩ : w.cell? ⟨bb, off, none⟩ = some (.int .u8 (e : Int)) ∧ w.cell? ⟨bb, off + 1, none⟩ = some (.int .u8 (1 : Int)) := by
    rcases hr with h | ⟨b', o', h, _, hc⟩
    · cases h
    · injection h with h
      injection h with h1 h2
      subst h1 h2
      exact ⟨hc 0 _ rfl, hc 1 _ rfl⟩
  have c1A : (w.alloc (.cells (madeCells #[.bool false] n) 4)).cell? ⟨bb, off + 1, none⟩ = some (.int .u8 (1 : Int)) := (Later.new w _).cell c1
  have HMB := Lib.hid (show m = (e :: 1 :: r).length from hm)
  have hew : IntKind.i64.wrap (e : Int) = (e : Int) := IntWalk.i64_in _ ⟨by omega, by omega⟩
  have hn0 : decide ((n : Int) < 0) = false := decide_eq_false (by omega)
  have hn1 : decide ((1000 : Int) < (n : Int)) = false := decide_eq_false (by omega)
  have hm2 : decide ((m : Int) < 2) = false := decide_eq_false (by omega)
  have i1 : (1 : Int) < (m : Int) := by omega
  have i0 : (0 : Int) < (m : Int) := by omega
  have i2 : (2 : Int) ≤ (m : Int) := by omega
  have i3 : (m : Int) ≤ (c : Int) := by omega
  have i4 : 2 ≤ m := by omega
  have hmk := fun W => run_make_row' (P := Tryz.prog) 46 4 (.bool false) 1 Tryz.underlying46 info_bool rfl .i64 .i64 n (by omega) (by omega) W
  obtain ⟨k8, hk8⟩ : ∃ k8, k8 = (n + 7) / 8 := ⟨_, rfl⟩
  have hki : ((n : Int) + 7) / 8 = (k8 : Int) := by omega
  have H256R := Lib.hid (show ∀ y ∈ r, y < 256 from fun y hy => h256 y (List.mem_cons_of_mem _ (List.mem_cons_of_mem _ hy)))
  have HML := Lib.hid hm
  have HN9 := Lib.hid hn
  have HLA := Lib.hid (Later.new w (.cells (madeCells #[.bool false] n) 4))
  rw [← hk8] at hle
  have HNO := Lib.hid (show takeC10 t n (e :: 1 :: r) = none by
    cases hT : takeC10 t n (e :: 1 :: r) with
    | none => rfl
    | some p =>
      obtain ⟨e', f', r', x', c', s', hb', _, _, hxl, hrel, _⟩ := takeC10_inv h256 hT
      injection hb' with h1 hb'
      injection hb' with h2 h3
      subst h1 h2 h3
      rw [show ((n : Nat) : Int).toNat = n from rfl] at hrel
      rcases hrel with ⟨h0, _⟩ | ⟨_, htk, _⟩
      · omega
      · have h := (takeN_pack (fun y hy => H256R.out y (List.mem_of_mem_take hy)) htk).2.2
        rw [List.length_take] at h
        omega)
  have j1 : ((m - 2 : Nat) : Int) < (k8 : Int) := by omega
  have j2 : (m : Int) - 2 < (k8 : Int) := by omega
  have j3 : (m : Int) < (k8 : Int) + 2 := by omega
  obtain ⟨bl, hbl⟩ : ∃ bl, bl = e :: 1 :: r := ⟨_, rfl⟩
  rw [← hbl] at HNO ⊢
  clear hr h256 hm hb hbc he hbl hle hk8 HR HMB H256 HML
  go_enter Tryz.func12, Tryz.ntmps12
  by_cases hc2 : c = 2
  · have hc0 : c - 2 = 0 := by omega
    go_wp2_with fail
    go_ret3
    exact ⟨.inl ⟨HNO.out, rfl⟩, HLA.out⟩
  · go_wp2_with fail
    go_ret3
    exact ⟨.inl ⟨HNO.out, rfl⟩, HLA.out⟩

set_option maxRecDepth 100000 in
set_option maxHeartbeats 1500000 in
theorem refTakeColumn_oneKeep (t : Int) (n : Nat) (bb off e k8 : Nat) (r : List Nat) (w : World) (hn : n ≤ 1000) (hk8 : k8 = (n + 7) / 8) (hk0 : ¬ k8 = 0) (hrl : r.length = k8) (hr : Has w (some ⟨bb, off, none⟩) (ints .u8 (e :: 1 :: r))) (h256 : ∀ x ∈ e :: 1 :: r, x < 256) :
    Calls Tryz.prog 12 #[.int .i64 t, .int .i64 n, .slice (some ⟨bb, off, none⟩) (k8 + 2) (k8 + 2)] w (TakesCol (takeC10 t n (e :: 1 :: r)) w) := by
  have he := h256 e (List.mem_cons_self ..)
  have H256 := Lib.hid h256
  have HR := Lib.hid hr
  obtain ⟨c0, c1⟩ : w.cell? ⟨bb, off, none⟩ = some (.int .u8 (e : Int)) ∧ w.cell? ⟨bb, off + 1, none⟩ = some (.int .u8 (1 : Int)) := by
    rcases hr with h | ⟨b', o', h, _, hc⟩
    · cases h
    · injection h with h
      injection h with h1 h2
      subst h1 h2
      exact ⟨hc 0 _ rfl, hc 1 _ rfl⟩
  have c1A : (w.alloc (.cells (madeCells #[.bool false] n) 4)).cell? ⟨bb, off + 1, none⟩ = some (.int .u8 (1 : Int)) := (Later.new w _).cell c1
  have HMB := Lib.hid (show k8 + 2 = (e :: 1 :: r).length by rw [List.length_cons, List.length_cons, hrl])
  have hew : IntKind.i64.wrap (e : Int) = (e : Int) := IntWalk.i64_in _ ⟨by omega, by omega⟩
  have hn0 : decide ((n : Int) < 0) = false := decide_eq_false (by omega)
  have hn1 : decide ((1000 : Int) < (n : Int)) = false := decide_eq_false (by omega)
  have hk9 : k8 ≤ 126 := by omega
  have j0 : (2 : Int) ≤ (k8 : Int) + 2 := by omega
  have j1 : (0 : Int) < (k8 : Int) + 2 := by omega
  have j2 : (1 : Int) < (k8 : Int) + 2 := by omega
  have j3 : ¬ (k8 : Int) + 2 < 2 := by omega
  have j4 : (0 : Int) ≤ (k8 : Int) := by omega
  have hmk := fun W => run_make_row' (P := Tryz.prog) 46 4 (.bool false) 1 Tryz.underlying46 info_bool rfl .i64 .i64 n (by omega) (by omega) W
  have hki : ((n : Int) + 7) / 8 = (k8 : Int) := by omega
  have H256R := Lib.hid (show ∀ y ∈ r, y < 256 from fun y hy => h256 y (List.mem_cons_of_mem _ (List.mem_cons_of_mem _ hy)))
  have HN9 := Lib.hid hn
  have HLA := Lib.hid (Later.new w (.cells (madeCells #[.bool false] n) 4))
  have HTN := Lib.hid (fun (w' : World) (lz : Later w w') => refTakeNulls_any (some ⟨bb, off + 2, none⟩) k8 k8 (r.take k8) (n : Int) w' (by rw [List.length_take]; omega) (by rw [List.length_take]; omega) (by
    have h := ((hr.behind 2).later lz).take k8
    rw [ints_take] at h
    exact h) (fun y hy => H256R.out y (List.mem_of_mem_take hy)))
  have HHR := Lib.hid (show Has w (some ⟨bb, off + 2, none⟩) (ints .u8 r) from hr.behind 2)
  have HK8 := Lib.hid hk8
  have HLE := Lib.hid hrl
  have HSE := Lib.hid (show ∀ x, takeN (r.take k8) n = some x → x.length = n ∧ (∀ q : List Nat, q = r.drop k8 → takeC10 t n (e :: 1 :: r) = (match decQ e t ((x.count false : Nat) : Int) q with
      | none => none
      | some s => if putC (e : Int) t (mixL x s) = some (e :: 1 :: r) then some (mixL x s, (e : Int)) else none)) from fun x hx => by
    have hxl := (takeN_pack (fun y hy => H256R.out y (List.mem_of_mem_take hy)) hx).1
    exact ⟨hxl, fun q hq => takeC10_eq (t := t) hn h256 hxl (by rw [hq]; exact fun y hy => H256R.out y (List.mem_of_mem_drop hy)) (.inr ⟨rfl, by rw [← hk8]; exact hx, by rw [← hk8]; exact hq⟩)⟩)
  have HSN := Lib.hid (show takeN (r.take k8) n = none → takeC10 t n (e :: 1 :: r) = none from fun hno => by
    cases hT : takeC10 t n (e :: 1 :: r) with
    | none => rfl
    | some p =>
      obtain ⟨e', f', r', x', c', s', hb', _, _, hxl, hrel, _⟩ := takeC10_inv h256 hT
      injection hb' with h1 hb'
      injection hb' with h2 h3
      subst h1 h2 h3
      rw [show ((n : Nat) : Int).toNat = n from rfl, ← hk8] at hrel
      rcases hrel with ⟨h0, _⟩ | ⟨_, htk, _⟩
      · omega
      · rw [hno] at htk; cases htk)
  obtain ⟨bl, hbl⟩ : ∃ bl, bl = e :: 1 :: r := ⟨_, rfl⟩
  rw [← hbl] at HSE HSN HR HMB H256 ⊢
  clear hr h256 he hbl hk8 hrl
  go_enter Tryz.func12, Tryz.ntmps12
  go_wp2_with fail
  refine (HTN.out _ HLA.out).mono ?_
  clear hmk HTN
  intro e5 w5 h
  cases hT : takeN (r.take k8) n with
  | none =>
    obtain ⟨rfl, l5⟩ := h.no hT
    have HO := Lib.hid (HSN.out hT)
    have L5 := Lib.hid (HLA.out.trans l5)
    clear h hT l5 c0 c1 c1A
    go_wp2_with fail
    go_ret3
    exact ⟨.inl ⟨HO.out, rfl⟩, L5.out⟩
  | some x =>
    obtain ⟨gx, rfl, _, bx, l5⟩ := h.yes hT
    obtain ⟨hxl, heq⟩ := HSE.out x hT
    obtain ⟨q, hq⟩ : ∃ q, q = r.drop k8 := ⟨_, rfl⟩
    have HEQ := Lib.hid (heq q hq)
    have HXL := Lib.hid hxl
    have HXH5 := Lib.hid bx.hasB
    have L5 := Lib.hid (HLA.out.trans l5)
    have HQ := Lib.hid hq
    have HQ256 := Lib.hid (show ∀ y ∈ q, y < 256 by rw [hq]; exact fun y hy => H256R.out y (List.mem_of_mem_drop hy))
    have HQL := Lib.hid (show 0 = q.length by rw [hq, List.length_drop]; have := HLE.out; omega)
    have HQM := Lib.hid (show q.length ≤ 1000000 by rw [hq, List.length_drop]; have := HLE.out; omega)
    have HQC := Lib.hid (show 0 ≤ 0 from Nat.le_refl _)
    have HQX := Lib.hid (show 0 ≤ 9223372036854775807 by decide)
    rw [hxl]
    clear h hT bx l5 heq hxl hq HSE HSN c0 c1 c1A
    go_wp2_with fail
    go_quiet (fail)
    obtain ⟨wT, hwT⟩ : ∃ wT, wT = w5.drewN nq := ⟨_, rfl⟩
    have lT : Later w5 wT := hwT ▸ (Later.refl w5).drewN nq
    have HLT := Lib.hid (L5.out.trans lT)
    have HXH := Lib.hid (HXH5.out.later lT)
    have HQH := Lib.hid (show Has wT (some ⟨bb, off + 2, none⟩) (ints .u8 q) by
      have h0 : q = [] := List.eq_nil_of_length_eq_zero (by have := HQL.out; omega)
      rw [h0]; exact Has.nil_)
    rw [← hwT]
    clear hwT lT HXH5 HHR L5
    go_wp2_with fail
    go_loop [14, 15] (fun mv iv => ∃ j u : Nat, j ≤ n ∧ iv = .int .i64 j ∧ mv = .int .i64 u ∧ u = (x.take j).count false) (fun _ i => n - (intOf i).toNat)
    case atStart => exact ⟨0, 0, Nat.zero_le _, rfl, rfl, rfl⟩
    case round =>
      obtain ⟨j, u, hj, rfl, rfl, hu⟩ := hrel
      by_cases hlt : j < n
      · have hjx : j < x.length := by have := HXL.out; omega
        obtain ⟨xb, xo, hxa, hcell⟩ := HXH.out.boolAt j hjx
        injection hxa with hxa
        injection hxa with hx1 hx2
        subst hx1 hx2
        rw [Nat.zero_add] at hcell
        have HNX := Lib.hid (show (x.take (j + 1)).count false = (x.take j).count false + (if x[j] = false then 1 else 0) by
          rw [List.take_succ_eq_append_getElem hjx, List.count_append]
          cases x[j] <;> rfl)
        obtain ⟨y, hy⟩ : ∃ y, y = x[j] := ⟨_, rfl⟩
        rw [← hy] at hcell HNX
        have hj9 : j < 1000 := by have := HN9.out; omega
        have hu9 : u ≤ 1000 := by rw [hu]; exact Nat.le_trans List.count_le_length (by rw [List.length_take]; omega)
        have HU := Lib.hid hu
        clear hy hu hjx
        cases y
        · go_wp2_with fail
          go_round
          case rel => exact ⟨j + 1, u + 1, hlt, by go_num, by go_num, by rw [HNX.out, ← HU.out]; rfl⟩
          case measure => simp [intOf]; omega
        · go_wp2_with fail
          go_round
          case rel => exact ⟨j + 1, u, hlt, by go_num, rfl, by rw [HNX.out, ← HU.out]; rfl⟩
          case measure => simp [intOf]; omega
      · obtain rfl : j = n := by omega
        have hux : u = x.count false := by rw [hu, List.take_of_length_le (by have := HXL.out; omega)]
        have HDEC := Lib.hid (refDec_any (e : Int) t ((u : Nat) : Int) _ _ _ q _ HQL.out HQH.out HQ256.out HQM.out HQC.out HQX.out)
        have HUX := Lib.hid hux
        rw [← hux] at HEQ
        clear hu hux
        go_wp2_with fail
        refine HDEC.out.mono ?_
        clear HDEC
        intro e3 w3 h
        rcases takesV_copy h with ⟨hno, rfl, l3⟩ | ⟨s, S, cs, hyes, rfl, hsh, hsc, hscm, l3⟩
        · have HO := Lib.hid (HEQ.out.trans (by rw [hno]))
          have L3 := Lib.hid (HLT.out.trans l3)
          clear hno h l3
          go_wp2_with fail
          go_ret3
          exact ⟨.inl ⟨HO.out, rfl⟩, L3.out⟩
        · obtain ⟨hs64, hslen⟩ := decQ_is HQ256.out hyes
          have HO := Lib.hid (HEQ.out.trans (by rw [hyes]))
          have L3 := Lib.hid (HLT.out.trans l3)
          have HX3 := Lib.hid (HXH.out.later l3)
          have H64 := Lib.hid (mixL_64 x s hs64)
          have HSTART := Lib.hid (show TcInv x s w3.heap.size j w3 (.slice S s.length cs) (.slice none 0 0) (.int .i64 0) w3 from TcInv.mk S none s.length cs 0 0 0 [] s 0 rfl rfl (Nat.zero_le _) rfl hsc hscm (by rw [List.drop_zero]; have := HUX.out; omega) rfl rfl hsh (ownG_nil _ _ _ _) (Later.refl _))
          clear h hyes hs64 hslen hsh hsc hscm l3 HQH HXH HEQ
          go_wp2_with fail
          go_loopw [16, 18, 19] (fun sv lv iv wr => TcInv x s w3.heap.size j w3 sv lv iv wr) (fun _ _ iv _ => j - (intOf iv).toNat)
          case atStart => exact HSTART.out
          case round =>
            clear HSTART
            obtain ⟨S', L, ns, cs', cl, k, done, sr, rfl, rfl, rfl, hk, hns, hcc, hcm, hcnt, hdl, hmix, hhas, hown, lat⟩ := hrel
            have HNS := Lib.hid hns
            have HCNT := Lib.hid hcnt
            have HDL := Lib.hid hdl
            have HMIX := Lib.hid hmix
            have HHAS := Lib.hid hhas
            have HOWN := Lib.hid hown
            have HLAT := Lib.hid lat
            clear hns hcnt hdl hmix hhas hown
            by_cases hlt2 : k < j
            · have hkx : k < x.length := by have := HXL.out; omega
              obtain ⟨xb, xo, hxa, hcell⟩ := (HX3.out.later lat).boolAt k hkx
              injection hxa with hxa
              injection hxa with hx1 hx2
              subst hx1 hx2
              rw [Nat.zero_add] at hcell
              have HDR := Lib.hid (drop_at hkx)
              obtain ⟨y, hy⟩ : ∃ y, y = x[k] := ⟨_, rfl⟩
              rw [← hy] at hcell HDR
              have hk9 : k < 1000 := by have := HN9.out; omega
              have hkj : (k : Int) < (j : Int) := by omega
              obtain ⟨wa, hwa⟩ : ∃ wa, wa = wr.alloc (.cells #[.int .i64 0, .int .i64 0, .string ⟨#[]⟩] 26) := ⟨_, rfl⟩
              obtain ⟨gv, hgv⟩ : ∃ gv, gv = wr.heap.size := ⟨_, rfl⟩
              have LA : Later wr wa := hwa ▸ Later.new _ _
              have hcellA : wa.cell? ⟨gx, k, none⟩ = some (.bool y) := LA.cell hcell
              have BV : Blk wa gv #[.int .i64 0, .int .i64 0, .string ⟨#[]⟩] 26 := by rw [hwa, hgv]; exact Blk.new wr _ _ _ rfl
              have HBV := Lib.hid BV
              have HWA := Lib.hid hwa
              have HGV := Lib.hid hgv
              have HLA := Lib.hid LA
              rw [hwa] at hcellA
              clear hy hcell LA BV hwa hgv hkx
              cases y with
              | true =>
                have HBB := (Blk.new wr #[.int .i64 0, .int .i64 0, .string ⟨#[]⟩] 26 _ rfl)
                have v0 := HBB.cell 0 _ rfl
                have v1 := HBB.cell 1 _ rfl
                have v2 := HBB.cell 2 _ rfl
                have HAS := Lib.hid ((Blk.new (wr.alloc (.cells #[.int .i64 0, .int .i64 0, .string ⟨#[]⟩] 26)) (fl [zV]).toArray 26 (wr.heap.size + 1) (by simp)).has)
                have LT := Lib.hid ((HLAT.out.alloc (.cells #[.int .i64 0, .int .i64 0, .string ⟨#[]⟩] 26)).alloc (.cells (fl [zV]).toArray 26))
                clear HBB lat
                go_wp2_with (at_builtin; refine wpList_append_g _ rfl (.tmp 114) (.tmp 116) 23 rfl w3.heap.size 26 (vagg 0 0 ⟨#[]⟩) 3 32 Tryz.underlying23 info_v rfl (by decide) _ k (fl done) rfl ((HOWN.out.alloc _).alloc _) _ 1 1 (fl [zV]) rfl HAS.out (by rfl) (by intro h; cases h) (fl_one _) (by unfold maxLen; omega) (by omega) LT.out.size ?_; intro A2 c2 w7 o2 g2 b2 n2; have HO2 := Lib.hid o2; have HL7 := Lib.hid (Later.of (LT.out.below.trans b2)); clear o2 g2 b2 n2)
                go_roundw
                case rel =>
                  refine TcInv.mk S' A2 ns cs' c2 (k + 1) _ (done ++ [zV]) sr _ rfl (by omega) hlt2 HNS.out hcc hcm ?_ (by rw [List.length_append, HDL.out]; rfl) ?_ HHAS.out (by rw [fl_append]; exact HO2.out) HL7.out
                  · have h := HCNT.out
                    rw [HDR.out] at h
                    simpa using h
                  · have h := HMIX.out
                    rw [HDR.out] at h
                    rw [← h, List.append_assoc]
                    rfl
                case measure => simp [intOf]; omega
              | false =>
                match sr, HNS, HMIX, HHAS with
                | [], HNS, HMIX, HHAS =>
                  exfalso
                  have h := HCNT.out
                  rw [HDR.out] at h
                  have := HNS.out
                  simp at h this
                  omega
                | v :: sr', HNS, HMIX, HHAS =>
                  obtain ⟨sb, so, rfl, c0, c1, c2⟩ := HHAS.out.val3 0 (by simp)
                  simp only [List.getElem_cons_zero, Nat.zero_mul, Nat.add_zero] at c0 c1 c2
                  have HH2 := Lib.hid (show Has w3 (if cs' = 1 then some ⟨sb, so, none⟩ else some ⟨sb, so + 3, none⟩) (fl sr') by
                    split
                    · have h0 : sr' = [] := List.eq_nil_of_length_eq_zero (by have := HNS.out; simp at this; omega)
                      rw [h0]; exact Has.nil_
                    · exact HHAS.out.drop 3)
                  obtain ⟨vt, vi, vs⟩ := v
                  dsimp only at c0 c1 c2
                  have LWA := HLAT.out.trans HLA.out
                  have a0 := LWA.cell c0
                  have a1 := LWA.cell c1
                  have a2 := LWA.cell c2
                  have o0 := HBV.out.cell 0 _ rfl
                  have o1 := HBV.out.cell 1 _ rfl
                  have o2 := HBV.out.cell 2 _ rfl
                  have f0 := HBV.out.frozen 0
                  have f1 := HBV.out.frozen 1
                  have f2 := HBV.out.frozen 2
                  have HCN2 := Lib.hid (show (x.drop (k + 1)).count false = ns - 1 by
                    have h := HCNT.out
                    rw [HDR.out, List.count_cons_self] at h
                    omega)
                  have HMX2 := Lib.hid (show (done ++ [(vt, vi, vs)]) ++ mixL (x.drop (k + 1)) sr' = mixL x s by
                    have h := HMIX.out
                    rw [HDR.out] at h
                    rw [← h, List.append_assoc]
                    rfl)
                  have HNS2 := Lib.hid (show ns - 1 = sr'.length by have := HNS.out; simp at this; omega)
                  have hns1 : 1 ≤ ns := by have := HNS.out; simp at this; omega
                  have i1' : (1 : Int) ≤ (ns : Int) := by omega
                  have i0' : (0 : Int) < (ns : Int) := by omega
                  have i2' : (ns : Int) ≤ (cs' : Int) := by omega
                  clear c0 c1 c2 LWA lat
                  go_wp2_with fail
                  rw [← HWA.out, ← HGV.out]
                  go_region
                  obtain ⟨wb, hwb⟩ : ∃ wb, wb = (((wa.setCell ⟨gv, 0, none⟩ (.int .i64 vt)).setCell ⟨gv, 1, none⟩ (.int .i64 vi)).setCell ⟨gv, 2, none⟩ (.string vs)).drew := ⟨_, rfl⟩
                  have LB : Later wr wb := by rw [hwb]; exact (three_later HLA.out (by rw [HGV.out]; exact Nat.le_refl _) _ _ _).drew
                  have BB : Blk wb gv #[.int .i64 vt, .int .i64 vi, .string vs] 26 := by rw [hwb]; exact (three_blk HBV.out rfl _ _ _).drew
                  rw [← hwb]
                  have v0 := BB.cell 0 _ rfl
                  have v1 := BB.cell 1 _ rfl
                  have v2 := BB.cell 2 _ rfl
                  have OB := Lib.hid (own_later HOWN.out LB)
                  have HAS := Lib.hid ((Blk.new wb (fl [(vt, vi, vs)]).toArray 26 _ rfl).has)
                  have LT := Lib.hid ((HLAT.out.trans LB).alloc (.cells (fl [(vt, vi, vs)]).toArray 26))
                  clear hwb LB BB a0 a1 a2 o0 o1 o2 f0 f1 f2
                  go_wp2_with (at_builtin; refine wpList_append_g _ rfl (.tmp 114) (.tmp 116) 23 rfl w3.heap.size 26 (vagg 0 0 ⟨#[]⟩) 3 32 Tryz.underlying23 info_v rfl (by decide) _ k (fl done) rfl (OB.out.alloc _) _ 1 1 (fl [(vt, vi, vs)]) rfl HAS.out (by rfl) (by intro h; cases h) (fl_one _) (by unfold maxLen; omega) (by omega) LT.out.size ?_; intro A2 c2 w7 o2 g2 b2 n2; have HO2 := Lib.hid o2; have HL7 := Lib.hid (Later.of (LT.out.below.trans b2)); clear o2 g2 b2 n2)
                  go_roundw
                  case rel => exact TcInv.mk _ A2 (ns - 1) (cs' - 1) c2 (k + 1) _ (done ++ [(vt, vi, vs)]) sr' _ rfl (by omega) hlt2 HNS2.out (by omega) (by omega) HCN2.out (by rw [List.length_append, HDL.out]; rfl) HMX2.out HH2.out (by rw [fl_append]; exact HO2.out) HL7.out
                  case measure => simp [intOf]; omega
            · obtain rfl : k = j := by omega
              have hmx : done = mixL x s := by
                have h := HMIX.out
                rw [List.drop_eq_nil_of_le (by have := HXL.out; omega), show mixL [] sr = [] from rfl, List.append_nil] at h
                exact h
              have hown := HOWN.out
              rw [hmx] at hown
              have HPC := Lib.hid (refPutColumn_any (e : Int) t L k cl (mixL x s) wr (by rw [mixL_len]; exact HXL.out.symm) (by rw [mixL_len, HXL.out]; exact HN9.out) (Has.ownG hown) H64.out)
              have HLH := Lib.hid (Has.ownG hown)
              have LY := Lib.hid (L3.out.trans lat)
              have HML := Lib.hid (show k = (mixL x s).length by rw [mixL_len]; exact HXL.out.symm)
              clear hmx hown lat
              go_wp2_with fail
              refine HPC.out.mono ?_
              clear HPC
              intro e4 w4 h
              rcases h with ⟨⟨hp, rfl⟩ | ⟨pb, C, cc, hp, rfl, ph, _, _, _⟩, l4⟩
              · have HO2 := Lib.hid (HO.out.trans (if_neg (by rw [hp]; simp)))
                have L4 := Lib.hid (LY.out.trans l4)
                clear hp l4
                go_wp2_with fail
                go_ret3
                exact ⟨.inl ⟨HO2.out, rfl⟩, L4.out⟩
              · have L4 := Lib.hid (LY.out.trans l4)
                have cv1 := conv_str C pb.length cc pb rfl w4 _ ph.rd
                have cv2 := conv_str (some ⟨bb, off, none⟩) (k8 + 2) (k8 + 2) (bl) HMB.out w4 _ ((HR.out.later L4.out).rd)
                have HPL := Lib.hid (putC_lt (by rw [mixL_len, HXL.out]; exact HN9.out) H64.out hp)
                by_cases heq : pb = bl
                · have HO2 := Lib.hid (HO.out.trans (if_pos (by rw [hp, heq])))
                  have HLH4 := Lib.hid (HLH.out.later l4)
                  subst heq
                  clear hp l4 ph
                  go_wp2_with fail
                  go_ret3
                  refine ⟨.inr ⟨mixL x s, e, L, cl, HO2.out, ?_, HLH4.out⟩, L4.out⟩
                  rw [← HML.out]
                  rfl
                · have HO2 := Lib.hid (HO.out.trans (if_neg (by rw [hp]; intro h; injection h with h; exact heq h)))
                  have hbn := bstr_ne HPL.out H256.out heq
                  clear hp l4 ph heq
                  go_wp2_with fail
                  go_ret3
                  exact ⟨.inl ⟨HO2.out, rfl⟩, L4.out⟩

set_option maxRecDepth 100000 in
set_option maxHeartbeats 1500000 in
theorem refTakeColumn_oneFar (t : Int) (n : Nat) (bb off m c e : Nat) (r : List Nat) (w : World) (hn : n ≤ 1000) (hm : m = r.length + 2) (hr : Has w (some ⟨bb, off, none⟩) (ints .u8 (e :: 1 :: r))) (h256 : ∀ x ∈ e :: 1 :: r, x < 256) (hb : r.length + 2 ≤ 1000000) (hbc : m ≤ c) (hc : c ≤ 9223372036854775807) (hle : (n + 7) / 8 ≤ r.length) (hc2 : ¬ c = 2) (hck : ¬ c - 2 = (n + 7) / 8) :
    Calls Tryz.prog 12 #[.int .i64 t, .int .i64 n, .slice (some ⟨bb, off, none⟩) m c] w (TakesCol (takeC10 t n (e :: 1 :: r)) w) := by
  have he := h256 e (List.mem_cons_self ..)
  have H256 := Lib.hid h256
  have HR := Lib.hid hr
  obtain ⟨c0, c1⟩ : w.cell? ⟨bb, off, none⟩ = some (.int .u8 (e : Int)) ∧ w.cell? ⟨bb, off + 1, none⟩ = some (.int .u8 (1 : Int)) := by
    rcases hr with h | ⟨b', o', h, _, hc⟩
    · cases h
    · injection h with h
      injection h with h1 h2
      subst h1 h2
      exact ⟨hc 0 _ rfl, hc 1 _ rfl⟩
  have c1A : (w.alloc (.cells (madeCells #[.bool false] n) 4)).cell? ⟨bb, off + 1, none⟩ = some (.int .u8 (1 : Int)) := (Later.new w _).cell c1
  have HMB := Lib.hid (show m = (e :: 1 :: r).length from hm)
  have hew : IntKind.i64.wrap (e : Int) = (e : Int) := IntWalk.i64_in _ ⟨by omega, by omega⟩
  have hn0 : decide ((n : Int) < 0) = false := decide_eq_false (by omega)
  have hn1 : decide ((1000 : Int) < (n : Int)) = false := decide_eq_false (by omega)
  have hm2 : decide ((m : Int) < 2) = false := decide_eq_false (by omega)
  have i1 : (1 : Int) < (m : Int) := by omega
  have i0 : (0 : Int) < (m : Int) := by omega
  have i2 : (2 : Int) ≤ (m : Int) := by omega
  have i3 : (m : Int) ≤ (c : Int) := by omega
  have i4 : 2 ≤ m := by omega
  have hmk := fun W => run_make_row' (P := Tryz.prog) 46 4 (.bool false) 1 Tryz.underlying46 info_bool rfl .i64 .i64 n (by omega) (by omega) W
  obtain ⟨k8, hk8⟩ : ∃ k8, k8 = (n + 7) / 8 := ⟨_, rfl⟩
  have hki : ((n : Int) + 7) / 8 = (k8 : Int) := by omega
  have H256R := Lib.hid (show ∀ y ∈ r, y < 256 from fun y hy => h256 y (List.mem_cons_of_mem _ (List.mem_cons_of_mem _ hy)))
  have HML := Lib.hid hm
  have HN9 := Lib.hid hn
  have HLA := Lib.hid (Later.new w (.cells (madeCells #[.bool false] n) 4))
  rw [← hk8] at hle hck
  have j1 : ¬ ((m - 2 : Nat) : Int) < (k8 : Int) := by omega
  have j2 : ¬ (m : Int) - 2 < (k8 : Int) := by omega
  have j4 : (k8 : Int) ≤ ((c - 2 : Nat) : Int) := by omega
  have j5 : (k8 : Int) ≤ (c : Int) - 2 := by omega
  have j6 : (k8 : Int) ≤ ((m - 2 : Nat) : Int) := by omega
  have j7 : (k8 : Int) ≤ (m : Int) - 2 := by omega
  have j8 : (0 : Int) ≤ (k8 : Int) := by omega
  have j9 : ((m - 2 : Nat) : Int) ≤ ((c - 2 : Nat) : Int) := by omega
  have HTN := Lib.hid (fun (w' : World) (lz : Later w w') => refTakeNulls_any (some ⟨bb, off + 2, none⟩) k8 (c - 2) (r.take k8) (n : Int) w' (by rw [List.length_take]; omega) (by rw [List.length_take]; omega) (by
    have h := ((hr.behind 2).later lz).take k8
    rw [ints_take] at h
    exact h) (fun y hy => H256R.out y (List.mem_of_mem_take hy)))
  have HHR := Lib.hid (show Has w (some ⟨bb, off + 2, none⟩) (ints .u8 r) from hr.behind 2)
  have HK8 := Lib.hid hk8
  have HLE := Lib.hid hle
  have HSE := Lib.hid (show ∀ x, takeN (r.take k8) n = some x → x.length = n ∧ (∀ q : List Nat, q = r.drop k8 → takeC10 t n (e :: 1 :: r) = (match decQ e t ((x.count false : Nat) : Int) q with
      | none => none
      | some s => if putC (e : Int) t (mixL x s) = some (e :: 1 :: r) then some (mixL x s, (e : Int)) else none)) from fun x hx => by
    have hxl := (takeN_pack (fun y hy => H256R.out y (List.mem_of_mem_take hy)) hx).1
    exact ⟨hxl, fun q hq => takeC10_eq (t := t) hn h256 hxl (by rw [hq]; exact fun y hy => H256R.out y (List.mem_of_mem_drop hy)) (.inr ⟨rfl, by rw [← hk8]; exact hx, by rw [← hk8]; exact hq⟩)⟩)
  have HSN := Lib.hid (show takeN (r.take k8) n = none → takeC10 t n (e :: 1 :: r) = none from fun hno => by
    cases hT : takeC10 t n (e :: 1 :: r) with
    | none => rfl
    | some p =>
      obtain ⟨e', f', r', x', c', s', hb', _, _, hxl, hrel, _⟩ := takeC10_inv h256 hT
      injection hb' with h1 hb'
      injection hb' with h2 h3
      subst h1 h2 h3
      rw [show ((n : Nat) : Int).toNat = n from rfl, ← hk8] at hrel
      rcases hrel with ⟨h0, _⟩ | ⟨_, htk, _⟩
      · omega
      · rw [hno] at htk; cases htk)
  obtain ⟨bl, hbl⟩ : ∃ bl, bl = e :: 1 :: r := ⟨_, rfl⟩
  rw [← hbl] at HSE HSN HR HMB H256 ⊢
  have HRL := Lib.hid (show r.length ≤ 999998 by omega)
  have HC := Lib.hid hc
  clear hr h256 hb hbc he hbl hk8 hle hm
  have hk9 : k8 ≤ 126 := by have := HK8.out; have := HN9.out; omega
  go_enter Tryz.func12, Tryz.ntmps12
  go_wp2_with fail
  refine (HTN.out _ HLA.out).mono ?_
  clear hmk HTN
  intro e5 w5 h
  cases hT : takeN (r.take k8) n with
  | none =>
    obtain ⟨rfl, l5⟩ := h.no hT
    have HO := Lib.hid (HSN.out hT)
    have L5 := Lib.hid (HLA.out.trans l5)
    clear h hT l5 c0 c1 c1A
    go_wp2_with fail
    go_ret3
    exact ⟨.inl ⟨HO.out, rfl⟩, L5.out⟩
  | some x =>
    obtain ⟨gx, rfl, _, bx, l5⟩ := h.yes hT
    obtain ⟨hxl, heq⟩ := HSE.out x hT
    obtain ⟨q, hq⟩ : ∃ q, q = r.drop k8 := ⟨_, rfl⟩
    have HEQ := Lib.hid (heq q hq)
    have HXL := Lib.hid hxl
    have HXH5 := Lib.hid bx.hasB
    have L5 := Lib.hid (HLA.out.trans l5)
    have HQ := Lib.hid hq
    have HQ256 := Lib.hid (show ∀ y ∈ q, y < 256 by rw [hq]; exact fun y hy => H256R.out y (List.mem_of_mem_drop hy))
    have HQL := Lib.hid (show m - 2 - k8 = q.length by rw [hq, List.length_drop]; have := HML.out; omega)
    have HQM := Lib.hid (show q.length ≤ 1000000 by rw [hq, List.length_drop]; have := HRL.out; omega)
    have HQC := Lib.hid (show m - 2 - k8 ≤ c - 2 - k8 by omega)
    have HQX := Lib.hid (show c - 2 - k8 ≤ 9223372036854775807 by omega)
    rw [hxl]
    clear h hT bx l5 heq hxl hq HSE HSN c0 c1 c1A
    go_wp2_with fail
    go_quiet (fail)
    obtain ⟨wT, hwT⟩ : ∃ wT, wT = w5.drewN nq := ⟨_, rfl⟩
    have lT : Later w5 wT := hwT ▸ (Later.refl w5).drewN nq
    have HLT := Lib.hid (L5.out.trans lT)
    have HXH := Lib.hid (HXH5.out.later lT)
    have HQH := Lib.hid (show Has wT (some ⟨bb, off + 2 + k8, none⟩) (ints .u8 q) by rw [HQ.out]; exact (HHR.out.behind k8).later HLT.out)
    rw [← hwT]
    clear hwT lT HXH5 HHR L5
    go_wp2_with fail
    go_loop [14, 15] (fun mv iv => ∃ j u : Nat, j ≤ n ∧ iv = .int .i64 j ∧ mv = .int .i64 u ∧ u = (x.take j).count false) (fun _ i => n - (intOf i).toNat)
    case atStart => exact ⟨0, 0, Nat.zero_le _, rfl, rfl, rfl⟩
    case round =>
      obtain ⟨j, u, hj, rfl, rfl, hu⟩ := hrel
      by_cases hlt : j < n
      · have hjx : j < x.length := by have := HXL.out; omega
        obtain ⟨xb, xo, hxa, hcell⟩ := HXH.out.boolAt j hjx
        injection hxa with hxa
        injection hxa with hx1 hx2
        subst hx1 hx2
        rw [Nat.zero_add] at hcell
        have HNX := Lib.hid (show (x.take (j + 1)).count false = (x.take j).count false + (if x[j] = false then 1 else 0) by
          rw [List.take_succ_eq_append_getElem hjx, List.count_append]
          cases x[j] <;> rfl)
        obtain ⟨y, hy⟩ : ∃ y, y = x[j] := ⟨_, rfl⟩
        rw [← hy] at hcell HNX
        have hj9 : j < 1000 := by have := HN9.out; omega
        have hu9 : u ≤ 1000 := by rw [hu]; exact Nat.le_trans List.count_le_length (by rw [List.length_take]; omega)
        have HU := Lib.hid hu
        clear hy hu hjx
        cases y
        · go_wp2_with fail
          go_round
          case rel => exact ⟨j + 1, u + 1, hlt, by go_num, by go_num, by rw [HNX.out, ← HU.out]; rfl⟩
          case measure => simp [intOf]; omega
        · go_wp2_with fail
          go_round
          case rel => exact ⟨j + 1, u, hlt, by go_num, rfl, by rw [HNX.out, ← HU.out]; rfl⟩
          case measure => simp [intOf]; omega
      · obtain rfl : j = n := by omega
        have hux : u = x.count false := by rw [hu, List.take_of_length_le (by have := HXL.out; omega)]
        have HDEC := Lib.hid (refDec_any (e : Int) t ((u : Nat) : Int) _ _ _ q _ HQL.out HQH.out HQ256.out HQM.out HQC.out HQX.out)
        have HUX := Lib.hid hux
        rw [← hux] at HEQ
        clear hu hux
        go_wp2_with fail
        refine HDEC.out.mono ?_
        clear HDEC
        intro e3 w3 h
        rcases takesV_copy h with ⟨hno, rfl, l3⟩ | ⟨s, S, cs, hyes, rfl, hsh, hsc, hscm, l3⟩
        · have HO := Lib.hid (HEQ.out.trans (by rw [hno]))
          have L3 := Lib.hid (HLT.out.trans l3)
          clear hno h l3
          go_wp2_with fail
          go_ret3
          exact ⟨.inl ⟨HO.out, rfl⟩, L3.out⟩
        · obtain ⟨hs64, hslen⟩ := decQ_is HQ256.out hyes
          have HO := Lib.hid (HEQ.out.trans (by rw [hyes]))
          have L3 := Lib.hid (HLT.out.trans l3)
          have HX3 := Lib.hid (HXH.out.later l3)
          have H64 := Lib.hid (mixL_64 x s hs64)
          have HSTART := Lib.hid (show TcInv x s w3.heap.size j w3 (.slice S s.length cs) (.slice none 0 0) (.int .i64 0) w3 from TcInv.mk S none s.length cs 0 0 0 [] s 0 rfl rfl (Nat.zero_le _) rfl hsc hscm (by rw [List.drop_zero]; have := HUX.out; omega) rfl rfl hsh (ownG_nil _ _ _ _) (Later.refl _))
          clear h hyes hs64 hslen hsh hsc hscm l3 HQH HXH HEQ
          go_wp2_with fail
          go_loopw [16, 18, 19] (fun sv lv iv wr => TcInv x s w3.heap.size j w3 sv lv iv wr) (fun _ _ iv _ => j - (intOf iv).toNat)
          case atStart => exact HSTART.out
          case round =>
            clear HSTART
            obtain ⟨S', L, ns, cs', cl, k, done, sr, rfl, rfl, rfl, hk, hns, hcc, hcm, hcnt, hdl, hmix, hhas, hown, lat⟩ := hrel
            have HNS := Lib.hid hns
            have HCNT := Lib.hid hcnt
            have HDL := Lib.hid hdl
            have HMIX := Lib.hid hmix
            have HHAS := Lib.hid hhas
            have HOWN := Lib.hid hown
            have HLAT := Lib.hid lat
            clear hns hcnt hdl hmix hhas hown
            by_cases hlt2 : k < j
            · have hkx : k < x.length := by have := HXL.out; omega
              obtain ⟨xb, xo, hxa, hcell⟩ := (HX3.out.later lat).boolAt k hkx
              injection hxa with hxa
              injection hxa with hx1 hx2
              subst hx1 hx2
              rw [Nat.zero_add] at hcell
              have HDR := Lib.hid (drop_at hkx)
              obtain ⟨y, hy⟩ : ∃ y, y = x[k] := ⟨_, rfl⟩
              rw [← hy] at hcell HDR
              have hk9 : k < 1000 := by have := HN9.out; omega
              have hkj : (k : Int) < (j : Int) := by omega
              obtain ⟨wa, hwa⟩ : ∃ wa, wa = wr.alloc (.cells #[.int .i64 0, .int .i64 0, .string ⟨#[]⟩] 26) := ⟨_, rfl⟩
              obtain ⟨gv, hgv⟩ : ∃ gv, gv = wr.heap.size := ⟨_, rfl⟩
              have LA : Later wr wa := hwa ▸ Later.new _ _
              have hcellA : wa.cell? ⟨gx, k, none⟩ = some (.bool y) := LA.cell hcell
              have BV : Blk wa gv #[.int .i64 0, .int .i64 0, .string ⟨#[]⟩] 26 := by rw [hwa, hgv]; exact Blk.new wr _ _ _ rfl
              have HBV := Lib.hid BV
              have HWA := Lib.hid hwa
              have HGV := Lib.hid hgv
              have HLA := Lib.hid LA
              rw [hwa] at hcellA
              clear hy hcell LA BV hwa hgv hkx
              cases y with
              | true =>
                have HBB := (Blk.new wr #[.int .i64 0, .int .i64 0, .string ⟨#[]⟩] 26 _ rfl)
                have v0 := HBB.cell 0 _ rfl
                have v1 := HBB.cell 1 _ rfl
                have v2 := HBB.cell 2 _ rfl
                have HAS := Lib.hid ((Blk.new (wr.alloc (.cells #[.int .i64 0, .int .i64 0, .string ⟨#[]⟩] 26)) (fl [zV]).toArray 26 (wr.heap.size + 1) (by simp)).has)
                have LT := Lib.hid ((HLAT.out.alloc (.cells #[.int .i64 0, .int .i64 0, .string ⟨#[]⟩] 26)).alloc (.cells (fl [zV]).toArray 26))
                clear HBB lat
                go_wp2_with (at_builtin; refine wpList_append_g _ rfl (.tmp 114) (.tmp 116) 23 rfl w3.heap.size 26 (vagg 0 0 ⟨#[]⟩) 3 32 Tryz.underlying23 info_v rfl (by decide) _ k (fl done) rfl ((HOWN.out.alloc _).alloc _) _ 1 1 (fl [zV]) rfl HAS.out (by rfl) (by intro h; cases h) (fl_one _) (by unfold maxLen; omega) (by omega) LT.out.size ?_; intro A2 c2 w7 o2 g2 b2 n2; have HO2 := Lib.hid o2; have HL7 := Lib.hid (Later.of (LT.out.below.trans b2)); clear o2 g2 b2 n2)
                go_roundw
                case rel =>
                  refine TcInv.mk S' A2 ns cs' c2 (k + 1) _ (done ++ [zV]) sr _ rfl (by omega) hlt2 HNS.out hcc hcm ?_ (by rw [List.length_append, HDL.out]; rfl) ?_ HHAS.out (by rw [fl_append]; exact HO2.out) HL7.out
                  · have h := HCNT.out
                    rw [HDR.out] at h
                    simpa using h
                  · have h := HMIX.out
                    rw [HDR.out] at h
                    rw [← h, List.append_assoc]
                    rfl
                case measure => simp [intOf]; omega
              | false =>
                match sr, HNS, HMIX, HHAS with
                | [], HNS, HMIX, HHAS =>
                  exfalso
                  have h := HCNT.out
                  rw [HDR.out] at h
                  have := HNS.out
                  simp at h this
                  omega
                | v :: sr', HNS, HMIX, HHAS =>
                  obtain ⟨sb, so, rfl, c0, c1, c2⟩ := HHAS.out.val3 0 (by simp)
                  simp only [List.getElem_cons_zero, Nat.zero_mul, Nat.add_zero] at c0 c1 c2
                  have HH2 := Lib.hid (show Has w3 (if cs' = 1 then some ⟨sb, so, none⟩ else some ⟨sb, so + 3, none⟩) (fl sr') by
                    split
                    · have h0 : sr' = [] := List.eq_nil_of_length_eq_zero (by have := HNS.out; simp at this; omega)
                      rw [h0]; exact Has.nil_
                    · exact HHAS.out.drop 3)
                  obtain ⟨vt, vi, vs⟩ := v
                  dsimp only at c0 c1 c2
                  have LWA := HLAT.out.trans HLA.out
                  have a0 := LWA.cell c0
                  have a1 := LWA.cell c1
                  have a2 := LWA.cell c2
                  have o0 := HBV.out.cell 0 _ rfl
                  have o1 := HBV.out.cell 1 _ rfl
                  have o2 := HBV.out.cell 2 _ rfl
                  have f0 := HBV.out.frozen 0
                  have f1 := HBV.out.frozen 1
                  have f2 := HBV.out.frozen 2
                  have HCN2 := Lib.hid (show (x.drop (k + 1)).count false = ns - 1 by
                    have h := HCNT.out
                    rw [HDR.out, List.count_cons_self] at h
                    omega)
                  have HMX2 := Lib.hid (show (done ++ [(vt, vi, vs)]) ++ mixL (x.drop (k + 1)) sr' = mixL x s by
                    have h := HMIX.out
                    rw [HDR.out] at h
                    rw [← h, List.append_assoc]
                    rfl)
                  have HNS2 := Lib.hid (show ns - 1 = sr'.length by have := HNS.out; simp at this; omega)
                  have hns1 : 1 ≤ ns := by have := HNS.out; simp at this; omega
                  have i1' : (1 : Int) ≤ (ns : Int) := by omega
                  have i0' : (0 : Int) < (ns : Int) := by omega
                  have i2' : (ns : Int) ≤ (cs' : Int) := by omega
                  clear c0 c1 c2 LWA lat
                  go_wp2_with fail
                  rw [← HWA.out, ← HGV.out]
                  go_region
                  obtain ⟨wb, hwb⟩ : ∃ wb, wb = (((wa.setCell ⟨gv, 0, none⟩ (.int .i64 vt)).setCell ⟨gv, 1, none⟩ (.int .i64 vi)).setCell ⟨gv, 2, none⟩ (.string vs)).drew := ⟨_, rfl⟩
                  have LB : Later wr wb := by rw [hwb]; exact (three_later HLA.out (by rw [HGV.out]; exact Nat.le_refl _) _ _ _).drew
                  have BB : Blk wb gv #[.int .i64 vt, .int .i64 vi, .string vs] 26 := by rw [hwb]; exact (three_blk HBV.out rfl _ _ _).drew
                  rw [← hwb]
                  have v0 := BB.cell 0 _ rfl
                  have v1 := BB.cell 1 _ rfl
                  have v2 := BB.cell 2 _ rfl
                  have OB := Lib.hid (own_later HOWN.out LB)
                  have HAS := Lib.hid ((Blk.new wb (fl [(vt, vi, vs)]).toArray 26 _ rfl).has)
                  have LT := Lib.hid ((HLAT.out.trans LB).alloc (.cells (fl [(vt, vi, vs)]).toArray 26))
                  clear hwb LB BB a0 a1 a2 o0 o1 o2 f0 f1 f2
                  go_wp2_with (at_builtin; refine wpList_append_g _ rfl (.tmp 114) (.tmp 116) 23 rfl w3.heap.size 26 (vagg 0 0 ⟨#[]⟩) 3 32 Tryz.underlying23 info_v rfl (by decide) _ k (fl done) rfl (OB.out.alloc _) _ 1 1 (fl [(vt, vi, vs)]) rfl HAS.out (by rfl) (by intro h; cases h) (fl_one _) (by unfold maxLen; omega) (by omega) LT.out.size ?_; intro A2 c2 w7 o2 g2 b2 n2; have HO2 := Lib.hid o2; have HL7 := Lib.hid (Later.of (LT.out.below.trans b2)); clear o2 g2 b2 n2)
                  go_roundw
                  case rel => exact TcInv.mk _ A2 (ns - 1) (cs' - 1) c2 (k + 1) _ (done ++ [(vt, vi, vs)]) sr' _ rfl (by omega) hlt2 HNS2.out (by omega) (by omega) HCN2.out (by rw [List.length_append, HDL.out]; rfl) HMX2.out HH2.out (by rw [fl_append]; exact HO2.out) HL7.out
                  case measure => simp [intOf]; omega
            · obtain rfl : k = j := by omega
              have hmx : done = mixL x s := by
                have h := HMIX.out
                rw [List.drop_eq_nil_of_le (by have := HXL.out; omega), show mixL [] sr = [] from rfl, List.append_nil] at h
                exact h
              have hown := HOWN.out
              rw [hmx] at hown
              have HPC := Lib.hid (refPutColumn_any (e : Int) t L k cl (mixL x s) wr (by rw [mixL_len]; exact HXL.out.symm) (by rw [mixL_len, HXL.out]; exact HN9.out) (Has.ownG hown) H64.out)
              have HLH := Lib.hid (Has.ownG hown)
              have LY := Lib.hid (L3.out.trans lat)
              have HML := Lib.hid (show k = (mixL x s).length by rw [mixL_len]; exact HXL.out.symm)
              clear hmx hown lat
              go_wp2_with fail
              refine HPC.out.mono ?_
              clear HPC
              intro e4 w4 h
              rcases h with ⟨⟨hp, rfl⟩ | ⟨pb, C, cc, hp, rfl, ph, _, _, _⟩, l4⟩
              · have HO2 := Lib.hid (HO.out.trans (if_neg (by rw [hp]; simp)))
                have L4 := Lib.hid (LY.out.trans l4)
                clear hp l4
                go_wp2_with fail
                go_ret3
                exact ⟨.inl ⟨HO2.out, rfl⟩, L4.out⟩
              · have L4 := Lib.hid (LY.out.trans l4)
                have cv1 := conv_str C pb.length cc pb rfl w4 _ ph.rd
                have cv2 := conv_str (some ⟨bb, off, none⟩) m c (bl) HMB.out w4 _ ((HR.out.later L4.out).rd)
                have HPL := Lib.hid (putC_lt (by rw [mixL_len, HXL.out]; exact HN9.out) H64.out hp)
                by_cases heq : pb = bl
                · have HO2 := Lib.hid (HO.out.trans (if_pos (by rw [hp, heq])))
                  have HLH4 := Lib.hid (HLH.out.later l4)
                  subst heq
                  clear hp l4 ph
                  go_wp2_with fail
                  go_ret3
                  refine ⟨.inr ⟨mixL x s, e, L, cl, HO2.out, ?_, HLH4.out⟩, L4.out⟩
                  rw [← HML.out]
                  rfl
                · have HO2 := Lib.hid (HO.out.trans (if_neg (by rw [hp]; intro h; injection h with h; exact heq h)))
                  have hbn := bstr_ne HPL.out H256.out heq
                  clear hp l4 ph heq
                  go_wp2_with fail
                  go_ret3
                  exact ⟨.inl ⟨HO2.out, rfl⟩, L4.out⟩

end Go.Proofs.YtldalkhmbpkjpaaGreatDoor
