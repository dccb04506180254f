/- Walks of package dict: read, Take. -/
import Derived.Test.YtfcedbhmbcbiaaaDoorDictW
import Derived.Test.YtfcedbhmbcbiaaaDoorDictD0
namespace Go.Proofs.YtfcedbhmbcbiaaaDoor
open Go.RowKit
set_option linter.unusedVariables false

theorem dictWrite_n (t : Int) (A : Option Addr) (n c : Nat) (l : List Val3) (w : World) (hn : n = l.length) (hs : S6 w) (hl : l.length ≤ 1000) (hr : Has w A (fl l)) (h64 : All64 l) :
    Calls Tryd.prog 14 #[.int .i64 t, .slice A n c] w (WritesB (putT t l) w) := by
  subst hn; exact dictWrite_any t A c l w hs hl hr h64
/-- The values at places. -/
def pick3 (d : List Val3) (ps : List Nat) : List Val3 := ps.map fun p => d.getD p (0, 0, ⟨#[]⟩)
theorem pick3_len (d : List Val3) (ps : List Nat) : (pick3 d ps).length = ps.length := List.length_map _
/-- Where read's loop stands. -/
def DRInv (d : List Val3) (us : List Nat) (wb : World) (lv iv : Value) (wr : World) : Prop :=
  ∃ (L : Option Addr) (cl j : Nat), lv = .slice L j cl ∧ iv = .int .i64 (j : Int) ∧ j ≤ us.length ∧ (∀ q (h : q < us.length), q < j → us[q] < d.length) ∧ wr.ownsRow wb.heap.size 34 3 (.slice L j cl) j (fl (pick3 d (us.take j))) ∧ Later wb wr
theorem DRInv.mk {d : List Val3} {us : List Nat} {wb wr : World} (L : Option Addr) (cl m j : Nat) (i : Int) (hm : m = j) (hi : i = (j : Int)) (h1 : j ≤ us.length) (h0 : ∀ q (h : q < us.length), q < j → us[q] < d.length) (h2 : wr.ownsRow wb.heap.size 34 3 (.slice L m cl) m (fl (pick3 d (us.take j)))) (h3 : Later wb wr) : DRInv d us wb (.slice L m cl) (.int .i64 i) wr := by
  subst hm hi; exact ⟨L, cl, m, rfl, rfl, h1, h0, h2, h3⟩

set_option maxRecDepth 100000 in
set_option maxHeartbeats 4000000 in
/-- The places are read: the rest of read. -/
theorem dictRead_yes (t : Int) (n : Nat) (A : Option Addr) (c : Nat) (b : List Nat) (w : World) (hs : S6 w) (ht : 1 ≤ t ∧ t ≤ 4) (hn : n ≤ 1000) (hr : Has w A (ints .u8 b)) (h256 : ∀ x ∈ b, x < 256) (hb : b.length ≤ 1000000) (hbc : b.length ≤ c) (hc : c ≤ 9223372036854775807) :
    Calls Tryd.prog 16 #[.int .i64 t, .int .i64 n, .slice A b.length c] w (WritesV (takeT t n b) w) := by
  have hif : Tryd.prog.isIface 42 = true := by kernel_rfl
  have HC := Lib.hid (count_yes t n w ht (by omega))
  have HRW := Lib.hid (readWords_any t ht n hn A c b w hs hr h256 hb hbc hc)
  obtain ⟨o, ho⟩ : ∃ o, o = takeT t n b := ⟨_, rfl⟩
  have hoe : o = (match readT t n b with | none => none | some l => if putT t l = some b then some l else none) := by
    rw [ho]; unfold takeT; rw [if_pos ⟨ht, by omega, by omega⟩]; rfl
  have HON := Lib.hid (fun (h : readT t n b = none) => (show o = none by rw [hoe, h]))
  have HOY := Lib.hid (fun (l : List Val3) (h : readT t n b = some l) (hp : putT t l = some b) => (show o = some l by rw [hoe, h]; simp only; rw [if_pos hp]))
  have HOX := Lib.hid (fun (l : List Val3) (h : readT t n b = some l) (hp : putT t l ≠ some b) => (show o = none by rw [hoe, h]; simp only; rw [if_neg hp]))
  rw [← ho]
  have HS := Lib.hid hs
  have HR := Lib.hid hr
  have H256 := Lib.hid h256
  have HTT := Lib.hid ht
  clear ht ho hoe hs hr h256
  go_enter Tryd.func16, Tryd.ntmps16
  go_wp2_with (go_at_call 27; refine HC.out.mono ?_; rintro e w' ⟨rfl, rfl⟩)
  refine HRW.out.mono ?_
  rintro e w2 ⟨⟨hq, p, rfl⟩ | ⟨d, k, D, dc, hq, rfl, hd⟩, l2⟩
  · have HO := Lib.hid (HON.out (readW_no hq))
    have heq := run_eql_iface_nil (P := Tryd.prog) (w := w2) 42 hif 81 (.pointer (some p))
    clear hq HRW HC
    go_wp2_with fail
    go_ret2
    exact ⟨.inl ⟨HO.out, p, rfl⟩, l2⟩
  · obtain ⟨hbp, hdn, hd64, hkb, hrt⟩ := readW_is HTT.out H256.out hq
    have L2 := Lib.hid l2
    have HDH := Lib.hid hd
    have HD64 := Lib.hid hd64
    obtain ⟨nd, hnd⟩ : ∃ nd, nd = d.length := ⟨_, rfl⟩
    have HND := Lib.hid hnd
    obtain ⟨r, hrr⟩ : ∃ r, r = b.drop k := ⟨_, rfl⟩
    have hrl : r.length = b.length - k := by rw [hrr, List.length_drop]
    have HR256 := Lib.hid (show ∀ x ∈ r, x < 256 by rw [hrr]; exact fun x hx => H256.out x (List.mem_of_mem_drop hx))
    rw [← hrr, ← hnd] at hrt
    have HTN := Lib.hid (fun (h : takeBits r n (widD nd) = none) => (show readT t n b = none by rw [hrt, h]))
    have HTX := Lib.hid (fun us (h : takeBits r n (widD nd) = some us) (hx : ¬ ∀ p ∈ us, p < nd) => (show readT t n b = none by rw [hrt, h]; simp only; rw [if_neg hx]))
    have HTY := Lib.hid (fun us (h : takeBits r n (widD nd) = some us) (hx : ∀ p ∈ us, p < nd) => (show readT t n b = some (pick3 d us) by rw [hrt, h]; simp only; rw [if_pos hx]; rfl))
    have hnd9 : nd ≤ 1000 := by omega
    obtain ⟨bb, off, rfl⟩ : ∃ bb off, A = some ⟨bb, off, none⟩ := by
      rcases HR.out with h | ⟨bb, off, h, _⟩
      · have := congrArg List.length h; rw [ints_length] at this
        have : b.length = 0 := this
        omega
      · exact ⟨bb, off, h⟩
    have HRH := Lib.hid (show Has w (some ⟨bb, off + k, none⟩) (ints .u8 r) from by
      have h := HR.out.drop k
      rw [show (ints .u8 b).drop k = ints .u8 (b.drop k) by simp [ints, List.map_drop], ← hrr] at h; exact h)
    rw [← hnd]
    clear hd hd64 hq l2 HRW HC hdn hnd hrr hrt hbp
    have HTK := Lib.hid (fun (A' : Option Addr) (m' c' : Nat) (zn zk : Int) (w' : World) (lz : Later w2 w') (hA : A' = some ⟨bb, off + k, none⟩ ∨ r = []) (hm : m' = r.length) (hc' : r.length ≤ c') (hzn : zn = (n : Int)) (hzk : zk = (widD nd : Int)) => bitsTake_o A' m' c' r zn zk n (widD nd) w' hm hzn hzk (by
      rcases hA with hA | hA
      · rw [hA]; exact HRH.out.later (L2.out.trans lz)
      · rw [hA]; exact Has.nil_) HR256.out (by omega) hc')
    have HWD := Lib.hid (fun w' => dictWidth_any nd w' (by omega))
    have i1 : (0 : Int) ≤ (k : Int) := by omega
    have i2 : (k : Int) ≤ (b.length : Int) := by omega
    have i3 : k ≤ b.length := hkb
    by_cases hcm : c = k
    · have HR0 := Lib.hid (show r = [] from List.eq_nil_of_length_eq_zero (by omega))
      subst hcm
      cases htb : takeBits r n (widD nd) with
      | none =>
        have HO := Lib.hid (HON.out (HTN.out htb))
        have HTB := Lib.hid htb
        clear htb
        go_wp2_with fail
        first
          | go_region_law (first
              | (go_simp; go_at_call 25; refine (HWD.out _).mono ?_; rintro e wW ⟨rfl, lW⟩; have LW := Lib.hid ((Later.refl w2).drew.trans lW); clear lW)
              | (go_simp; go_at_call 29; refine (HTK.out _ _ _ _ _ _ LW.out (by first | exact .inl rfl | exact .inr HR0.out) (by first | rfl | omega) (by omega) rfl rfl).mono ?_; intro e wX h; obtain ⟨rfl, lX⟩ := h.no HTB.out; have LX := Lib.hid (L2.out.trans (LW.out.trans lX)); clear h lX))
          | fail "no walk"
        all_goals try simp [Act.put]
        have HSX := Lib.hid (HS.out.later LX.out)
        obtain ⟨sv, hsv⟩ := HSX.out.value
        go_wp2_with (go_at_call 26; refine (at_l _ _ _ _).mono ?_; rintro e w5 ⟨q, rfl, l5⟩)
        go_ret2
        exact ⟨.inl ⟨HO.out, q, rfl⟩, LX.out.trans l5⟩
      | some us =>
        have HTB := Lib.hid htb
        have HUN := Lib.hid (takeBits_len htb).1
        have HU64 := Lib.hid (takeBits_lt htb)
        have HTYU := Lib.hid (HTY.out us htb)
        have HTXU := Lib.hid (HTX.out us htb)
        clear htb
        go_wp2_with fail
        first
          | go_region_law (first
              | (go_simp; go_at_call 25; refine (HWD.out _).mono ?_; rintro e wW ⟨rfl, lW⟩; have LW := Lib.hid ((Later.refl w2).drew.trans lW); clear lW)
              | (go_simp; go_at_call 29; refine (HTK.out _ _ _ _ _ _ LW.out (by first | exact .inl rfl | exact .inr HR0.out) (by first | rfl | omega) (by omega) rfl rfl).mono ?_; intro e wX h; obtain ⟨UA, uc, rfl, uh, lX⟩ := h.yes HTB.out; have LX := Lib.hid (L2.out.trans (LW.out.trans lX)); have LXD := Lib.hid (LW.out.trans lX); have HUH := Lib.hid uh; clear h lX uh))
          | fail "no walk"
        all_goals try simp [Act.put]
        have HDX := Lib.hid (HDH.out.later LXD.out)
        clear hrl HTK i1 i2 i3 HDH HWD LW LXD
        have hnw : IntKind.u64.wrap (nd : Int) = (nd : Int) := by rw [IntKind.wrap_u64]; omega
        go_wp2_with fail
        go_loopw [14, 53] (fun lv iv wr => DRInv d us wX lv iv wr) (fun _ iv _ => us.length - (intOf iv).toNat)
        case atStart => exact DRInv.mk none 0 0 0 0 rfl rfl (Nat.zero_le _) (fun q h hq => by omega) (ownG_nil _ _ _ _) (Later.refl _)
        case round =>
          obtain ⟨L, cl, j, rfl, rfl, hj, hall, hown, lat⟩ := hrel
          by_cases hlt : j < us.length
          · obtain ⟨ub, uo, rfl, hcell⟩ : ∃ ub uo, UA = some ⟨ub, uo, none⟩ ∧ wr.cell? ⟨ub, uo + j, none⟩ = some (.int .u64 ((us[j] : Nat) : Int)) := by
              rcases HUH.out.later lat with h | ⟨ub, uo, h1, _, hc⟩
              · have h2 : us.length = 0 := by have h := congrArg List.length h; rw [ints_length] at h; exact h
                omega
              · exact ⟨ub, uo, h1, hc j _ (by rw [ints_get _ _ _ hlt])⟩
            have HREP := Lib.hid (show pick3 d (us.take (j + 1)) = pick3 d (us.take j) ++ [d.getD us[j] (0, 0, ⟨#[]⟩)] by
              unfold pick3; rw [List.take_succ_eq_append_getElem hlt, List.map_append]; rfl)
            have HMEM := Lib.hid (List.getElem_mem hlt)
            have HALL := Lib.hid (fun (hx : us[j] < d.length) => (show ∀ q (h : q < us.length), q < j + 1 → us[q] < d.length from fun q h hq => by
              rcases Nat.lt_or_ge q j with h' | h'
              · exact hall q h h'
              · obtain rfl : q = j := by omega
                exact hx))
            have hu64 := HU64.out _ (List.getElem_mem hlt)
            generalize us[j] = a at hcell HREP HMEM HALL hu64
            have HOWN := Lib.hid hown
            have LAT := Lib.hid lat
            have HJ9 := Lib.hid (show j < 1000 by have := HUN.out; omega)
            have hj9 : j < 1000 := HJ9.out
            clear hown lat hall
            by_cases ha : a < nd
            · have hge : decide ((nd : Int) ≤ (a : Int)) = false := by simp; omega
              have hge2 : decide (nd ≤ a) = false := by simp; omega
              have hge3 : ¬ nd ≤ a := by omega
              have had : a < d.length := by have := HND.out; omega
              obtain ⟨db, doff, rfl, c0, c1, c2⟩ := (HDX.out.later LAT.out).val3 a had
              rw [show d.getD a (0, 0, ⟨#[]⟩) = (d[a].1, d[a].2.1, d[a].2.2) by rw [List.getD_eq_getElem?_getD, List.getElem?_eq_getElem had]; rfl] at HREP
              generalize d[a].1 = vt at c0 HREP
              generalize d[a].2.1 = vi at c1 HREP
              generalize d[a].2.2 = vs at c2 HREP
              have ha0 : (0 : Int) ≤ (a : Int) := by omega
              have ha1 : (a : Int) < (nd : Int) := by omega
              have HAS := Lib.hid ((Blk.new wr (fl [(vt, vi, vs)]).toArray 34 _ rfl).has)
              have O2 := Lib.hid (HOWN.out.alloc (.cells (fl [(vt, vi, vs)]).toArray 34))
              have LT2 := Lib.hid (LAT.out.alloc (.cells (fl [(vt, vi, vs)]).toArray 34))
              have HAN := Lib.hid (HALL.out had)
              clear had hu64 ha HALL
              go_wp2_with (at_builtin; refine wpList_append_g _ rfl (.tmp 66) (.tmp 71) 25 rfl wX.heap.size 34 (vagg 0 0 ⟨#[]⟩) 3 32 Tryd.underlying25 info_v rfl (by decide) _ j (fl (pick3 d (us.take j))) rfl O2.out _ 1 1 (fl [(vt, vi, vs)]) rfl HAS.out (by rfl) (by intro h; cases h) (fl_one _) (by have := HJ9.out; unfold maxLen; omega) (by have := HJ9.out; omega) ?_ ?_; (exact LT2.out.size); intro A2 c2 w6 o2 g2 b2 n2; have HO2 := Lib.hid o2; have HB6 := Lib.hid (Later.of (LT2.out.below.trans b2)); clear o2 g2 b2 n2)
              go_roundw
              case rel => exact DRInv.mk A2 c2 _ (j + 1) _ rfl (by omega) hlt HAN.out (by rw [HREP.out, fl_append]; exact HO2.out) HB6.out
              case measure => simp [intOf]; omega
            · have HO := Lib.hid (HON.out (HTXU.out fun h => ha (h a HMEM.out)))
              have hge : decide ((nd : Int) ≤ (a : Int)) = true := by simp; omega
              have hge2 : decide (nd ≤ a) = true := by simp; omega
              have hge3 : nd ≤ a := by omega
              have LZ := Lib.hid (LX.out.trans LAT.out)
              have HSX := Lib.hid (HS.out.later LZ.out)
              obtain ⟨sv, hsv⟩ := HSX.out.bound
              clear ha hu64 HALL
              go_wp2_with (go_at_call 26; refine (at_l _ _ _ _).mono ?_; rintro e w5 ⟨q, rfl, l5⟩)
              go_ret2
              exact ⟨.inl ⟨HO.out, q, rfl⟩, LZ.out.trans l5⟩
          · obtain rfl : j = us.length := by omega
            obtain ⟨l, hl⟩ : ∃ l, l = pick3 d us := ⟨_, rfl⟩
            rw [List.take_of_length_le (Nat.le_refl _), ← hl] at hown
            have HRK := Lib.hid (show readT t n b = some l by
              rw [HTYU.out fun p hp => ?_, hl]
              obtain ⟨q, hq, rfl⟩ := List.getElem_of_mem hp
              rw [HND.out]; exact hall q hq hq)
            obtain ⟨nl, hnl'⟩ : ∃ nl, nl = us.length := ⟨_, rfl⟩
            have hnl : nl = l.length := by rw [hl, hnl', pick3_len]
            rw [← hnl'] at hown hlt ⊢
            have HLH := Lib.hid (Has.ownG hown)
            have HLN := Lib.hid (show l.length ≤ 1000 by have := HUN.out; omega)
            have HL64 := Lib.hid (readT_is HTT.out H256.out HRK.out).2.1
            have LX := Lib.hid (LX.out.trans lat)
            have HSX := Lib.hid (HS.out.later LX.out)
            clear hown lat hl hnl' HUN hall hj
            have HW := Lib.hid (dictWrite_n t L nl cl l wr hnl HSX.out HLN.out HLH.out HL64.out)
            have HNL := Lib.hid hnl
            clear hnl
            go_wp2_with fail
            refine HW.out.mono ?_
            rintro e wY ⟨⟨hp, p, rfl⟩ | ⟨pb, PA, pc, hp, rfl, ph, _, _, _⟩, lY⟩
            · have HO := Lib.hid (HOX.out l HRK.out (by rw [hp]; simp))
              have LY := Lib.hid (LX.out.trans lY)
              clear hp lY HW
              go_wp2_with (go_at_call 30; refine (cellSame_err _ _ _ _ _ _ _ _ _ p _).mono ?_; rintro e w' ⟨rfl, rfl⟩)
              go_ret2
              exact ⟨.inl ⟨HO.out, p, rfl⟩, LY.out⟩
            · have LY := Lib.hid (LX.out.trans lY)
              have HLY := Lib.hid (HLH.out.later lY)
              by_cases heq : pb = b
              · have HO := Lib.hid (HOY.out l HRK.out (by rw [hp, heq]))
                have HSM := Lib.hid (cellSame_yes L (some ⟨bb, off, none⟩) PA nl cl b.length c pb.length pc b wY rfl (by rw [heq]) (HR.out.later LY.out) (heq ▸ ph))
                clear hp lY HW heq ph
                go_wp2_with (go_at_call 30; refine HSM.out.mono ?_; rintro e w' ⟨rfl, rfl⟩)
                go_ret2
                refine ⟨.inr ⟨l, L, cl, HO.out, ?_, HLY.out⟩, LY.out⟩
                rw [← HNL.out]
                rfl
              · have HO := Lib.hid (HOX.out l HRK.out (by rw [hp]; intro e; injection e with e; exact heq e))
                have HSM := Lib.hid (cellSame_no L (some ⟨bb, off, none⟩) PA nl cl b.length c pb.length pc b pb wY (HS.out.later LY.out) rfl rfl (HR.out.later LY.out) ph (putT_lt HLN.out HL64.out hp) H256.out heq)
                clear hp lY HW heq ph
                go_wp2_with (go_at_call 30; refine HSM.out.mono ?_; rintro e w' ⟨⟨q, rfl⟩, lS⟩)
                go_ret2
                exact ⟨.inl ⟨HO.out, q, rfl⟩, LY.out.trans lS⟩
    · have HR0 := Lib.hid (trivial : True)
      cases htb : takeBits r n (widD nd) with
      | none =>
        have HO := Lib.hid (HON.out (HTN.out htb))
        have HTB := Lib.hid htb
        clear htb
        go_wp2_with fail
        first
          | go_region_law (first
              | (go_simp; go_at_call 25; refine (HWD.out _).mono ?_; rintro e wW ⟨rfl, lW⟩; have LW := Lib.hid ((Later.refl w2).drew.trans lW); clear lW)
              | (go_simp; go_at_call 29; refine (HTK.out _ _ _ _ _ _ LW.out (by first | exact .inl rfl | exact .inr HR0.out) (by first | rfl | omega) (by omega) rfl rfl).mono ?_; intro e wX h; obtain ⟨rfl, lX⟩ := h.no HTB.out; have LX := Lib.hid (L2.out.trans (LW.out.trans lX)); clear h lX))
          | fail "no walk"
        all_goals try simp [Act.put]
        have HSX := Lib.hid (HS.out.later LX.out)
        obtain ⟨sv, hsv⟩ := HSX.out.value
        go_wp2_with (go_at_call 26; refine (at_l _ _ _ _).mono ?_; rintro e w5 ⟨q, rfl, l5⟩)
        go_ret2
        exact ⟨.inl ⟨HO.out, q, rfl⟩, LX.out.trans l5⟩
      | some us =>
        have HTB := Lib.hid htb
        have HUN := Lib.hid (takeBits_len htb).1
        have HU64 := Lib.hid (takeBits_lt htb)
        have HTYU := Lib.hid (HTY.out us htb)
        have HTXU := Lib.hid (HTX.out us htb)
        clear htb
        go_wp2_with fail
        first
          | go_region_law (first
              | (go_simp; go_at_call 25; refine (HWD.out _).mono ?_; rintro e wW ⟨rfl, lW⟩; have LW := Lib.hid ((Later.refl w2).drew.trans lW); clear lW)
              | (go_simp; go_at_call 29; refine (HTK.out _ _ _ _ _ _ LW.out (by first | exact .inl rfl | exact .inr HR0.out) (by first | rfl | omega) (by omega) rfl rfl).mono ?_; intro e wX h; obtain ⟨UA, uc, rfl, uh, lX⟩ := h.yes HTB.out; have LX := Lib.hid (L2.out.trans (LW.out.trans lX)); have LXD := Lib.hid (LW.out.trans lX); have HUH := Lib.hid uh; clear h lX uh))
          | fail "no walk"
        all_goals try simp [Act.put]
        have HDX := Lib.hid (HDH.out.later LXD.out)
        clear hrl HTK i1 i2 i3 HDH HWD LW LXD
        have hnw : IntKind.u64.wrap (nd : Int) = (nd : Int) := by rw [IntKind.wrap_u64]; omega
        go_wp2_with fail
        go_loopw [14, 53] (fun lv iv wr => DRInv d us wX lv iv wr) (fun _ iv _ => us.length - (intOf iv).toNat)
        case atStart => exact DRInv.mk none 0 0 0 0 rfl rfl (Nat.zero_le _) (fun q h hq => by omega) (ownG_nil _ _ _ _) (Later.refl _)
        case round =>
          obtain ⟨L, cl, j, rfl, rfl, hj, hall, hown, lat⟩ := hrel
          by_cases hlt : j < us.length
          · obtain ⟨ub, uo, rfl, hcell⟩ : ∃ ub uo, UA = some ⟨ub, uo, none⟩ ∧ wr.cell? ⟨ub, uo + j, none⟩ = some (.int .u64 ((us[j] : Nat) : Int)) := by
              rcases HUH.out.later lat with h | ⟨ub, uo, h1, _, hc⟩
              · have h2 : us.length = 0 := by have h := congrArg List.length h; rw [ints_length] at h; exact h
                omega
              · exact ⟨ub, uo, h1, hc j _ (by rw [ints_get _ _ _ hlt])⟩
            have HREP := Lib.hid (show pick3 d (us.take (j + 1)) = pick3 d (us.take j) ++ [d.getD us[j] (0, 0, ⟨#[]⟩)] by
              unfold pick3; rw [List.take_succ_eq_append_getElem hlt, List.map_append]; rfl)
            have HMEM := Lib.hid (List.getElem_mem hlt)
            have HALL := Lib.hid (fun (hx : us[j] < d.length) => (show ∀ q (h : q < us.length), q < j + 1 → us[q] < d.length from fun q h hq => by
              rcases Nat.lt_or_ge q j with h' | h'
              · exact hall q h h'
              · obtain rfl : q = j := by omega
                exact hx))
            have hu64 := HU64.out _ (List.getElem_mem hlt)
            generalize us[j] = a at hcell HREP HMEM HALL hu64
            have HOWN := Lib.hid hown
            have LAT := Lib.hid lat
            have HJ9 := Lib.hid (show j < 1000 by have := HUN.out; omega)
            have hj9 : j < 1000 := HJ9.out
            clear hown lat hall
            by_cases ha : a < nd
            · have hge : decide ((nd : Int) ≤ (a : Int)) = false := by simp; omega
              have hge2 : decide (nd ≤ a) = false := by simp; omega
              have hge3 : ¬ nd ≤ a := by omega
              have had : a < d.length := by have := HND.out; omega
              obtain ⟨db, doff, rfl, c0, c1, c2⟩ := (HDX.out.later LAT.out).val3 a had
              rw [show d.getD a (0, 0, ⟨#[]⟩) = (d[a].1, d[a].2.1, d[a].2.2) by rw [List.getD_eq_getElem?_getD, List.getElem?_eq_getElem had]; rfl] at HREP
              generalize d[a].1 = vt at c0 HREP
              generalize d[a].2.1 = vi at c1 HREP
              generalize d[a].2.2 = vs at c2 HREP
              have ha0 : (0 : Int) ≤ (a : Int) := by omega
              have ha1 : (a : Int) < (nd : Int) := by omega
              have HAS := Lib.hid ((Blk.new wr (fl [(vt, vi, vs)]).toArray 34 _ rfl).has)
              have O2 := Lib.hid (HOWN.out.alloc (.cells (fl [(vt, vi, vs)]).toArray 34))
              have LT2 := Lib.hid (LAT.out.alloc (.cells (fl [(vt, vi, vs)]).toArray 34))
              have HAN := Lib.hid (HALL.out had)
              clear had hu64 ha HALL
              go_wp2_with (at_builtin; refine wpList_append_g _ rfl (.tmp 66) (.tmp 71) 25 rfl wX.heap.size 34 (vagg 0 0 ⟨#[]⟩) 3 32 Tryd.underlying25 info_v rfl (by decide) _ j (fl (pick3 d (us.take j))) rfl O2.out _ 1 1 (fl [(vt, vi, vs)]) rfl HAS.out (by rfl) (by intro h; cases h) (fl_one _) (by have := HJ9.out; unfold maxLen; omega) (by have := HJ9.out; omega) ?_ ?_; (exact LT2.out.size); intro A2 c2 w6 o2 g2 b2 n2; have HO2 := Lib.hid o2; have HB6 := Lib.hid (Later.of (LT2.out.below.trans b2)); clear o2 g2 b2 n2)
              go_roundw
              case rel => exact DRInv.mk A2 c2 _ (j + 1) _ rfl (by omega) hlt HAN.out (by rw [HREP.out, fl_append]; exact HO2.out) HB6.out
              case measure => simp [intOf]; omega
            · have HO := Lib.hid (HON.out (HTXU.out fun h => ha (h a HMEM.out)))
              have hge : decide ((nd : Int) ≤ (a : Int)) = true := by simp; omega
              have hge2 : decide (nd ≤ a) = true := by simp; omega
              have hge3 : nd ≤ a := by omega
              have LZ := Lib.hid (LX.out.trans LAT.out)
              have HSX := Lib.hid (HS.out.later LZ.out)
              obtain ⟨sv, hsv⟩ := HSX.out.bound
              clear ha hu64 HALL
              go_wp2_with (go_at_call 26; refine (at_l _ _ _ _).mono ?_; rintro e w5 ⟨q, rfl, l5⟩)
              go_ret2
              exact ⟨.inl ⟨HO.out, q, rfl⟩, LZ.out.trans l5⟩
          · obtain rfl : j = us.length := by omega
            obtain ⟨l, hl⟩ : ∃ l, l = pick3 d us := ⟨_, rfl⟩
            rw [List.take_of_length_le (Nat.le_refl _), ← hl] at hown
            have HRK := Lib.hid (show readT t n b = some l by
              rw [HTYU.out fun p hp => ?_, hl]
              obtain ⟨q, hq, rfl⟩ := List.getElem_of_mem hp
              rw [HND.out]; exact hall q hq hq)
            obtain ⟨nl, hnl'⟩ : ∃ nl, nl = us.length := ⟨_, rfl⟩
            have hnl : nl = l.length := by rw [hl, hnl', pick3_len]
            rw [← hnl'] at hown hlt ⊢
            have HLH := Lib.hid (Has.ownG hown)
            have HLN := Lib.hid (show l.length ≤ 1000 by have := HUN.out; omega)
            have HL64 := Lib.hid (readT_is HTT.out H256.out HRK.out).2.1
            have LX := Lib.hid (LX.out.trans lat)
            have HSX := Lib.hid (HS.out.later LX.out)
            clear hown lat hl hnl' HUN hall hj
            have HW := Lib.hid (dictWrite_n t L nl cl l wr hnl HSX.out HLN.out HLH.out HL64.out)
            have HNL := Lib.hid hnl
            clear hnl
            go_wp2_with fail
            refine HW.out.mono ?_
            rintro e wY ⟨⟨hp, p, rfl⟩ | ⟨pb, PA, pc, hp, rfl, ph, _, _, _⟩, lY⟩
            · have HO := Lib.hid (HOX.out l HRK.out (by rw [hp]; simp))
              have LY := Lib.hid (LX.out.trans lY)
              clear hp lY HW
              go_wp2_with (go_at_call 30; refine (cellSame_err _ _ _ _ _ _ _ _ _ p _).mono ?_; rintro e w' ⟨rfl, rfl⟩)
              go_ret2
              exact ⟨.inl ⟨HO.out, p, rfl⟩, LY.out⟩
            · have LY := Lib.hid (LX.out.trans lY)
              have HLY := Lib.hid (HLH.out.later lY)
              by_cases heq : pb = b
              · have HO := Lib.hid (HOY.out l HRK.out (by rw [hp, heq]))
                have HSM := Lib.hid (cellSame_yes L (some ⟨bb, off, none⟩) PA nl cl b.length c pb.length pc b wY rfl (by rw [heq]) (HR.out.later LY.out) (heq ▸ ph))
                clear hp lY HW heq ph
                go_wp2_with (go_at_call 30; refine HSM.out.mono ?_; rintro e w' ⟨rfl, rfl⟩)
                go_ret2
                refine ⟨.inr ⟨l, L, cl, HO.out, ?_, HLY.out⟩, LY.out⟩
                rw [← HNL.out]
                rfl
              · have HO := Lib.hid (HOX.out l HRK.out (by rw [hp]; intro e; injection e with e; exact heq e))
                have HSM := Lib.hid (cellSame_no L (some ⟨bb, off, none⟩) PA nl cl b.length c pb.length pc b pb wY (HS.out.later LY.out) rfl rfl (HR.out.later LY.out) ph (putT_lt HLN.out HL64.out hp) H256.out heq)
                clear hp lY HW heq ph
                go_wp2_with (go_at_call 30; refine HSM.out.mono ?_; rintro e w' ⟨⟨q, rfl⟩, lS⟩)
                go_ret2
                exact ⟨.inl ⟨HO.out, q, rfl⟩, LY.out.trans lS⟩

set_option maxRecDepth 100000 in
theorem dictRead_no (t n : Int) (A : Option Addr) (m c : Nat) (w : World) (hs : S6 w) (h : ¬ ((1 ≤ t ∧ t ≤ 4) ∧ 0 ≤ n ∧ n ≤ 1000)) :
    Calls Tryd.prog 16 #[.int .i64 t, .int .i64 n, .slice A m c] w (WritesV none w) := by
  have hif : Tryd.prog.isIface 42 = true := by kernel_rfl
  have HA := Lib.hid (count_no t n w h hs.type hs.bound)
  clear hs h
  go_enter Tryd.func16, Tryd.ntmps16
  go_wp2_with fail
  refine HA.out.mono ?_
  rintro e w1 ⟨v, rfl, ⟨p, rfl⟩, l1⟩
  have heq := run_eql_iface_nil (P := Tryd.prog) (w := w1) 42 hif 81 (.pointer (some p))
  go_wp2_with fail
  go_ret2
  exact ⟨.inl ⟨rfl, p, rfl⟩, l1⟩

theorem dictRead_any (t n : Int) (A : Option Addr) (c : Nat) (b : List Nat) (w : World) (hs : S6 w) (hr : Has w A (ints .u8 b)) (h256 : ∀ x ∈ b, x < 256) (hb : b.length ≤ 1000000) (hbc : b.length ≤ c) (hc : c ≤ 9223372036854775807) :
    Calls Tryd.prog 16 #[.int .i64 t, .int .i64 n, .slice A b.length c] w (WritesV (takeT t n b) w) := by
  by_cases h : (1 ≤ t ∧ t ≤ 4) ∧ 0 ≤ n ∧ n ≤ 1000
  · obtain ⟨m, rfl⟩ : ∃ m : Nat, n = (m : Int) := ⟨n.toNat, by omega⟩
    exact dictRead_yes t m A c b w hs h.1 (by omega) hr h256 hb hbc hc
  · unfold takeT; rw [if_neg h]; exact dictRead_no t n A _ c w hs h

set_option maxRecDepth 100000 in
theorem dictTake_any (t n : Int) (A : Option Addr) (c : Nat) (b : List Nat) (w : World) (hs : S6 w) (hr : Has w A (ints .u8 b)) (h256 : ∀ x ∈ b, x < 256) (hb : b.length ≤ 1000000) (hbc : b.length ≤ c) (hc : c ≤ 9223372036854775807) :
    Calls Tryd.prog 9 #[.int .i64 t, .int .i64 n, .slice A b.length c] w (PutsV (takeT t n b) w) := by
  have HC := Lib.hid (dictRead_any t n A c b w hs hr h256 hb hbc hc)
  clear hs hr h256 hb hbc hc
  go_enter Tryd.func9, Tryd.ntmps9
  go_wp2_with fail
  refine HC.out.mono ?_
  rintro e w1 ⟨⟨ho, p, rfl⟩ | ⟨l, B, cb, ho, rfl, h1⟩, l1⟩
  · go_wp2_with (go_at_call 15; refine (listV_no _ _ _ p _).mono ?_; rintro e w' ⟨rfl, rfl⟩)
    go_ret2
    exact ⟨.inl ⟨ho, rfl⟩, l1⟩
  · have H := Lib.hid (show PutsV (takeT t n b) w (.returned (.tuple #[.slice B l.length cb, .bool true])) w1 from ⟨.inr ⟨l, B, cb, ho, rfl, h1⟩, l1⟩)
    clear ho h1 l1
    go_wp2_with (go_at_call 15; refine (listV_yes _ _ _ _).mono ?_; rintro e w' ⟨rfl, rfl⟩)
    go_ret2
    exact H.out
end Go.Proofs.YtfcedbhmbcbiaaaDoor
