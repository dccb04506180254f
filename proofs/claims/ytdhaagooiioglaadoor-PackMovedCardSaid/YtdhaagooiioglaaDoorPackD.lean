/- Walks of package pack: read, Take. -/
import Derived.Test.YtdhaagooiioglaaDoorPackW
import Derived.BigQuiet
namespace Go.Proofs.YtdhaagooiioglaaDoor
open Go.RowKit
set_option linter.unusedVariables false

theorem packWrite_n (t : Int) (A : Option Addr) (n c : Nat) (l : List Val3) (w : World) (hn : n = l.length) (hs : S6 w) (hl : l.length ≤ 1000) (hr : Has w A (fl l)) (h64 : All64 l) :
    Calls Tryd.prog 29 #[.int .i64 t, .slice A n c] w (WritesB (putK t l) w) := by
  subst hn; exact packWrite_any t A c l w hs hl hr h64
/-- Where read's loop stands. -/
def PRInv (t z : Int) (us : List Nat) (w wb : World) (lv iv : Value) (wr : World) : Prop :=
  ∃ (L : Option Addr) (cl j : Nat), lv = .slice L j cl ∧ iv = .int .i64 (j : Int) ∧ j ≤ us.length ∧ wr.ownsRow wb.heap.size 26 3 (.slice L j cl) j (fl (unpackV t z (us.take j))) ∧ Later wb wr
theorem PRInv.mk {t z : Int} {us : List Nat} {w wb wr : World} (L : Option Addr) (cl m j : Nat) (i : Int) (hm : m = j) (hi : i = (j : Int)) (h1 : j ≤ us.length) (h2 : wr.ownsRow wb.heap.size 26 3 (.slice L m cl) m (fl (unpackV t z (us.take j)))) (h3 : Later wb wr) : PRInv t z us w wb (.slice L m cl) (.int .i64 i) wr := by
  subst hm hi; exact ⟨L, cl, m, rfl, rfl, h1, h2, h3⟩

set_option maxRecDepth 100000 in
set_option maxHeartbeats 4000000 in
theorem packRead_yes (t : Int) (n : Nat) (A : Option Addr) (c : Nat) (b : List Nat) (w : World) (hs : S6 w) (ht : 1 ≤ t ∧ t ≤ 4) (hn : n ≤ 1000) (hr : Has w A (ints .u8 b)) (h256 : ∀ x ∈ b, x < 256) (hb : b.length ≤ 1000000) (hbc : b.length ≤ c) (hc : c ≤ 9223372036854775807) :
    Calls Tryd.prog 38 #[.int .i64 t, .int .i64 n, .slice A b.length c] w (WritesV (takeK t n b) w) := by
  have HC := Lib.hid (count_yes t n w ht (by omega))
  obtain ⟨o, ho⟩ : ∃ o, o = takeK t n b := ⟨_, rfl⟩
  have hoe : o = (match readK t n b with | none => none | some l => if putK t l = some b then some l else none) := by
    rw [ho]; unfold takeK; rw [if_pos ⟨ht, by omega, by omega⟩]; rfl
  have HON := Lib.hid (fun (h : readK t n b = none) => (show o = none by rw [hoe, h]))
  have HOY := Lib.hid (fun (l : List Val3) (h : readK t n b = some l) (hp : putK t l = some b) => (show o = some l by rw [hoe, h]; simp only; rw [if_pos hp]))
  have HOX := Lib.hid (fun (l : List Val3) (h : readK t n b = some l) (hp : putK t l ≠ some b) => (show o = none by rw [hoe, h]; simp only; rw [if_neg hp]))
  rw [← ho]
  have HS := Lib.hid hs
  have HR := Lib.hid hr
  have H256 := Lib.hid h256
  by_cases h0 : n = 0
  · have d0 : decide ((0 : Int) < (n : Int)) = false := by simp; omega
    have d1 : decide (0 < n) = false := by simp; omega
    have d2 : ¬ 0 < n := by omega
    have HRK := Lib.hid (show readK t n b = some [] by rw [h0]; rfl)
    clear ht ho hoe hs hr h256 h0
    go_enter Tryd.func38, Tryd.ntmps38
    go_wp2_with (go_at_call 57; refine HC.out.mono ?_; rintro e w' ⟨rfl, rfl⟩)
    have HW := Lib.hid (packWrite_n t none 0 0 [] w rfl HS.out (Nat.zero_le _) Has.nil_ (fun x hx => by cases hx))
    have LX := Lib.hid (Later.refl w)
    go_wp2_with fail
    refine HW.out.mono ?_
    rintro e wY ⟨⟨hp, p, rfl⟩ | ⟨pb, PA, pc, hp, rfl, ph, _, _, _⟩, lY⟩
    · have HO := Lib.hid (HOX.out [] HRK.out (by rw [hp]; simp))
      have LY := Lib.hid (LX.out.trans lY)
      clear hp lY HW
      go_wp2_with (go_at_call 61; refine (cellSame_err _ _ _ _ _ _ _ _ _ p _).mono ?_; rintro e w' ⟨rfl, rfl⟩)
      go_ret2
      exact ⟨.inl ⟨HO.out, p, rfl⟩, LY.out⟩
    · have LY := Lib.hid (LX.out.trans lY)
      by_cases heq : pb = b
      · have HO := Lib.hid (HOY.out [] HRK.out (by rw [hp, heq]))
        have HSM := Lib.hid (cellSame_yes none A PA 0 0 b.length c pb.length pc b wY rfl (by rw [heq]) (HR.out.later LY.out) (heq ▸ ph))
        clear hp lY HW heq ph
        go_wp2_with (go_at_call 61; refine HSM.out.mono ?_; rintro e w' ⟨rfl, rfl⟩)
        go_ret2
        exact ⟨.inr ⟨[], none, 0, HO.out, rfl, Has.nil_⟩, LY.out⟩
      · have HO := Lib.hid (HOX.out [] HRK.out (by rw [hp]; intro e; injection e with e; exact heq e))
        have HSM := Lib.hid (cellSame_no none A PA 0 0 b.length c pb.length pc b pb wY (HS.out.later LY.out) rfl rfl (HR.out.later LY.out) ph (putK_lt (fun x hx => by cases hx) hp) H256.out heq)
        clear hp lY HW heq ph
        go_wp2_with (go_at_call 61; refine HSM.out.mono ?_; rintro e w' ⟨⟨q, rfl⟩, lS⟩)
        go_ret2
        exact ⟨.inl ⟨HO.out, q, rfl⟩, LY.out.trans lS⟩
  · have d0 : decide ((0 : Int) < (n : Int)) = true := decide_eq_true (by omega)
    have d1 : decide (0 < n) = true := decide_eq_true (by omega)
    have d2 : 0 < n := by omega
    have hi0 : (0 : Int) < (n : Int) := by omega
    obtain ⟨aN, hN⟩ := hs.num
    have HTN := Lib.hid (take_num A b.length c b aN w w.heap.size rfl hr h256 hb hN)
    have HRK0 := Lib.hid (show ∀ hT : takeNum b = none, readK t n b = none from fun hT => by unfold readK; rw [if_neg h0, hT])
    have HRK1 := Lib.hid (show ∀ u k, takeNum b = some (u, k) → b.drop k = [] → readK t n b = none from fun u k hT hd => by unfold readK; rw [if_neg h0, hT]; simp only; rw [hd])
    have HRK2 := Lib.hid (show ∀ u k wd r, takeNum b = some (u, k) → b.drop k = wd :: r → readK t n b = (takeBits r n wd).map (unpackV t (zag u)) from fun u k wd r hT hd => by unfold readK; rw [if_neg h0, hT]; simp only; rw [hd])
    clear ht ho hoe hs hr h256 h0 hN
    go_enter Tryd.func38, Tryd.ntmps38
    go_wp2_with (go_at_call 57; refine HC.out.mono ?_; rintro e w' ⟨rfl, rfl⟩)
    refine HTN.out.mono ?_
    rintro e w2 ⟨u, k, ok, hT0, rfl, b2⟩
    have L2 := Lib.hid (Later.of b2)
    clear b2 HTN HC
    rcases takeR_some hT0 with ⟨rfl, hT⟩ | ⟨rfl, hT⟩
    · obtain ⟨hu64, hk1, hk3⟩ := takeNum_is H256.out hT
      have hkb : k ≤ b.length := by rw [hk1]; exact hk3.length_le
      have hk10 : k ≤ 10 := by rw [hk1]; exact putNum_le u
      have HU := Lib.hid hu64
      by_cases hk : k = b.length
      · have HO := Lib.hid (HON.out (HRK1.out u k hT (List.drop_of_length_le (by omega))))
        have e0 : ((k : Int) == (b.length : Int)) = true := by simp [hk]
        have HSX := Lib.hid (HS.out.later L2.out)
        obtain ⟨sv, hsv⟩ := HSX.out.short
        clear hT hk1 hk3 hu64 hT0 hk
        go_wp2_with (go_at_call 45; refine (at_l _ _ _ _).mono ?_; rintro e w5 ⟨q, rfl, l5⟩)
        go_ret2
        exact ⟨.inl ⟨HO.out, q, rfl⟩, L2.out.trans l5⟩
      · have e0 : ((k : Int) == (b.length : Int)) = false := by rw [beq_eq_false_iff_ne]; omega
        have hkl : k < b.length := by omega
        obtain ⟨wd, hwd⟩ : ∃ wd, wd = b[k] := ⟨_, rfl⟩
        obtain ⟨r, hrr⟩ : ∃ r, r = b.drop (k + 1) := ⟨_, rfl⟩
        have hd : b.drop k = wd :: r := by rw [hwd, hrr]; exact List.drop_eq_getElem_cons hkl
        have HRKM := Lib.hid (HRK2.out u k wd r hT hd)
        have HRKN := Lib.hid (fun (h : takeBits r n wd = none) => (show readK t n b = none by rw [HRKM.out, h]; rfl))
        have HRKS := Lib.hid (fun us (h : takeBits r n wd = some us) => (show readK t n b = some (unpackV t (zag u) us) by rw [HRKM.out, h]; rfl))
        have hrl : r.length = b.length - (k + 1) := by rw [hrr, List.length_drop]
        have hwd256 : wd < 256 := by rw [hwd]; exact H256.out _ (List.getElem_mem hkl)
        obtain ⟨bb, off, rfl, hcell⟩ : ∃ bb off, A = some ⟨bb, off, none⟩ ∧ w.cell? ⟨bb, off + k, none⟩ = some (.int .u8 (wd : Int)) := by
          rcases HR.out with h | ⟨bb, off, h1, _, hc⟩
          · have h2 : b.length = 0 := by have h := congrArg List.length h; rw [ints_length] at h; exact h
            omega
          · exact ⟨bb, off, h1, hc k _ (by rw [ints_get _ _ _ hkl, hwd])⟩
        have HRD := Lib.hid (show Has w (some ⟨bb, off + (k + 1), none⟩) (ints .u8 r) from by have h := HR.out.drop (k + 1); rw [show (ints .u8 b).drop (k + 1) = ints .u8 (b.drop (k + 1)) by simp [ints, List.map_drop], ← hrr] at h; exact h)
        have HR256 := Lib.hid (show ∀ x ∈ r, x < 256 by rw [hrr]; exact fun x hx => H256.out x (List.mem_of_mem_drop hx))
        obtain ⟨k1, hk1'⟩ : ∃ k1, k1 = k + 1 := ⟨_, rfl⟩
        rw [← hk1'] at HRD
        have hk1w : IntKind.i64.wrap ((k : Int) + 1) = (k1 : Int) := by rw [IntKind.wrap_i64]; omega
        have hwdw : IntKind.i64.wrap (wd : Int) = (wd : Int) := IntWalk.i64_in _ ⟨by omega, by omega⟩
        have i1 : (0 : Int) ≤ (k1 : Int) := by omega
        have i2 : (k1 : Int) ≤ (b.length : Int) := by omega
        have i3 : (k : Int) < (b.length : Int) := by omega
        have i4 : (0 : Int) ≤ (k : Int) := by omega
        have i5 : k1 ≤ b.length := by omega
        have hce : w2.drew.cell? ⟨bb, off + k, none⟩ = some (.int .u8 (wd : Int)) := by have h := L2.out.cell hcell; exact h
        have hrl2 : r.length = b.length - k1 := by omega
        have HTK := Lib.hid (fun (A' : Option Addr) (m' c' : Nat) (zn zk : Int) (w' : World) (lz : Later w2 w') (hA : A' = some ⟨bb, off + k1, none⟩ ∨ r = []) (hm : m' = r.length) (hc' : r.length ≤ c') (hzn : zn = (n : Int)) (hzk : zk = (wd : Int)) => bitsTake_o A' m' c' r zn zk n wd w' hm hzn hzk (by
          rcases hA with hA | hA
          · rw [hA]; exact HRD.out.later (L2.out.trans lz)
          · rw [hA]; exact Has.nil_) HR256.out (by omega) hc')
        clear hT hk1 hk3 hu64 hT0 hk hwd hrr hd HRK0 HRK1 HRK2 hcell hrl hk1' HRD HR256
        by_cases hcm : c = k1
        · have HR0 := Lib.hid (show r = [] from List.eq_nil_of_length_eq_zero (by omega))
          subst hcm
          cases htb : takeBits r n wd with
          | none =>
            have HO := Lib.hid (HON.out (HRKN.out htb))
            have HTB := Lib.hid htb
            clear htb
            go_wp2_with fail
            first
              | go_region_law (first
                  | (go_simp; go_at_call 59; refine (HTK.out _ _ _ _ _ _ ((Later.refl _).drew) (by first | exact .inl rfl | exact .inr HR0.out) (by first | rfl | omega) (by omega) rfl rfl).mono ?_; intro e wX h; obtain ⟨rfl, lX⟩ := h.no HTB.out; have LX := Lib.hid (L2.out.trans ((Later.refl w2).drew.trans lX)); clear h lX))
              | fail "no walk"
            all_goals try simp [Act.put]
            have HSX := Lib.hid (HS.out.later LX.out)
            obtain ⟨sv, hsv⟩ := HSX.out.value
            go_wp2_with (go_at_call 45; refine (at_l _ _ _ _).mono ?_; rintro e w5 ⟨q, rfl, l5⟩)
            go_ret2
            exact ⟨.inl ⟨HO.out, q, rfl⟩, LX.out.trans l5⟩
          | some us =>
            have HTB := Lib.hid htb
            have HUN := Lib.hid (takeBits_len htb).1
            have HU64 := Lib.hid (takeBits_lt htb)
            have HRK := Lib.hid (HRKS.out us htb)
            clear htb
            go_wp2_with fail
            first
              | go_region_law (first
                  | (go_simp; go_at_call 59; refine (HTK.out _ _ _ _ _ _ ((Later.refl _).drew) (by first | exact .inl rfl | exact .inr HR0.out) (by first | rfl | omega) (by omega) rfl rfl).mono ?_; intro e wX h; obtain ⟨UA, uc, rfl, uh, lX⟩ := h.yes HTB.out; have LX := Lib.hid (L2.out.trans ((Later.refl w2).drew.trans lX)); have HUH := Lib.hid uh; clear h lX uh))
              | fail "no walk"
            all_goals try simp [Act.put]
            clear hce hrl2 HTK hk1w hwdw i1 i2 i3 i4 i5 e0 hkb hk10 hkl hwd256
            go_wp2_with fail
            go_loopw [9, 64] (fun lv iv wr => PRInv t (zag u) us w wX lv iv wr) (fun _ iv _ => us.length - (intOf iv).toNat)
            case atStart => exact PRInv.mk none 0 0 0 0 rfl rfl (Nat.zero_le _) (ownG_nil _ _ _ _) (Later.refl _)
            case round =>
              obtain ⟨L, cl, j, rfl, rfl, hj, hown, lat⟩ := hrel
              by_cases hlt : j < us.length
              · obtain ⟨ub, uo, rfl, hcell⟩ : ∃ ub uo, UA = some ⟨ub, uo, none⟩ ∧ wr.cell? ⟨ub, uo + j, none⟩ = some (.int .u64 ((us[j] : Nat) : Int)) := by
                  rcases HUH.out.later lat with h | ⟨ub, uo, h1, _, hc⟩
                  · have h2 : us.length = 0 := by have h := congrArg List.length h; rw [ints_length] at h; exact h
                    omega
                  · exact ⟨ub, uo, h1, hc j _ (by rw [ints_get _ _ _ hlt])⟩
                have ha := HU64.out _ (List.getElem_mem hlt)
                have HREP := Lib.hid (show unpackV t (zag u) (us.take (j + 1)) = unpackV t (zag u) (us.take j) ++ [(t, w64 (zag u + ((us[j] : Nat) : Int)), ⟨#[]⟩)] by
                  unfold unpackV; rw [List.take_succ_eq_append_getElem hlt, List.map_append]; rfl)
                generalize us[j] = a at hcell ha HREP
                obtain ⟨v, hv⟩ : ∃ v, v = w64 (zag u + (a : Int)) := ⟨_, rfl⟩
                rw [← hv] at HREP
                have hvw : IntKind.i64.wrap (IntKind.u64.wrap (IntKind.u64.wrap (zag u) + (a : Int))) = v := by
                  rw [hv]; unfold w64
                  rw [IntKind.wrap_u64, IntKind.wrap_u64, IntKind.wrap_i64, IntKind.wrap_i64]
                  omega
                have HAS := Lib.hid ((Blk.new wr (fl [(t, v, (⟨#[]⟩ : ByteArray))]).toArray 26 _ rfl).has)
                have O2 := Lib.hid (hown.alloc (.cells (fl [(t, v, (⟨#[]⟩ : ByteArray))]).toArray 26))
                have LT2 := Lib.hid (lat.alloc (.cells (fl [(t, v, (⟨#[]⟩ : ByteArray))]).toArray 26))
                have HJ9 := Lib.hid (show j < 1000 by have := HUN.out; omega)
                have hj9 : j < 1000 := HJ9.out
                clear hown lat hv ha
                go_wp2_with (first
                  | (go_at_call 60; refine (zag_any u _ HU.out).mono ?_; rintro e w' ⟨rfl, rfl⟩)
                  | (at_builtin; refine wpList_append_g _ rfl (.tmp 68) (.tmp 77) 23 rfl wX.heap.size 26 (vagg 0 0 ⟨#[]⟩) 3 32 Tryd.underlying23 info_v rfl (by decide) _ j (fl (unpackV t (zag u) (us.take j))) rfl O2.out _ 1 1 (fl [(t, v, (⟨#[]⟩ : ByteArray))]) rfl HAS.out (by rfl) (by intro h; cases h) (fl_one _) (by have := HJ9.out; unfold maxLen; omega) (by have := HJ9.out; omega) ?_ ?_; (exact LT2.out.size); intro A2 c2 w6 o2 g2 b2 n2; have HO2 := Lib.hid o2; have HB6 := Lib.hid (Later.of (LT2.out.below.trans b2)); clear o2 g2 b2 n2))
                go_roundw
                case rel => exact PRInv.mk A2 c2 _ (j + 1) _ rfl (by omega) hlt (by rw [HREP.out, fl_append]; exact HO2.out) HB6.out
                case measure => simp [intOf]; omega
              · obtain rfl : j = us.length := by omega
                obtain ⟨l, hl⟩ : ∃ l, l = unpackV t (zag u) us := ⟨_, rfl⟩
                rw [List.take_of_length_le (Nat.le_refl _), ← hl] at hown
                rw [← hl] at HRK
                obtain ⟨nl, hnl'⟩ : ∃ nl, nl = us.length := ⟨_, rfl⟩
                have hnl : nl = l.length := by rw [hl, hnl']; unfold unpackV; rw [List.length_map]
                rw [← hnl'] at hown hlt ⊢
                have HLH := Lib.hid (Has.ownG hown)
                have HLN := Lib.hid (show l.length ≤ 1000 by have := HUN.out; omega)
                have HL64 := Lib.hid (readK_is HRK.out).2
                have LX := Lib.hid (LX.out.trans lat)
                have HSX := Lib.hid (HS.out.later LX.out)
                clear hown lat hl hnl' HUN
                have HW := Lib.hid (packWrite_n t L nl cl l wr hnl HSX.out HLN.out HLH.out HL64.out)
                have HNL := Lib.hid hnl
                clear hnl
                go_wp2_with fail
                refine HW.out.mono ?_
                rintro e wY ⟨⟨hp, p, rfl⟩ | ⟨pb, PA, pc, hp, rfl, ph, _, _, _⟩, lY⟩
                · have HO := Lib.hid (HOX.out l HRK.out (by rw [hp]; simp))
                  have LY := Lib.hid (LX.out.trans lY)
                  clear hp lY HW
                  go_wp2_with (go_at_call 61; refine (cellSame_err _ _ _ _ _ _ _ _ _ p _).mono ?_; rintro e w' ⟨rfl, rfl⟩)
                  go_ret2
                  exact ⟨.inl ⟨HO.out, p, rfl⟩, LY.out⟩
                · have LY := Lib.hid (LX.out.trans lY)
                  have HLY := Lib.hid (HLH.out.later lY)
                  by_cases heq : pb = b
                  · have HO := Lib.hid (HOY.out l HRK.out (by rw [hp, heq]))
                    have HSM := Lib.hid (cellSame_yes L (some ⟨bb, off, none⟩) PA nl cl b.length c pb.length pc b wY rfl (by rw [heq]) (HR.out.later LY.out) (heq ▸ ph))
                    clear hp lY HW heq ph
                    go_wp2_with (go_at_call 61; refine HSM.out.mono ?_; rintro e w' ⟨rfl, rfl⟩)
                    go_ret2
                    refine ⟨.inr ⟨l, L, cl, HO.out, ?_, HLY.out⟩, LY.out⟩
                    rw [← HNL.out]
                    rfl
                  · have HO := Lib.hid (HOX.out l HRK.out (by rw [hp]; intro e; injection e with e; exact heq e))
                    have HSM := Lib.hid (cellSame_no L (some ⟨bb, off, none⟩) PA nl cl b.length c pb.length pc b pb wY (HS.out.later LY.out) rfl rfl (HR.out.later LY.out) ph (putK_lt HL64.out hp) H256.out heq)
                    clear hp lY HW heq ph
                    go_wp2_with (go_at_call 61; refine HSM.out.mono ?_; rintro e w' ⟨⟨q, rfl⟩, lS⟩)
                    go_ret2
                    exact ⟨.inl ⟨HO.out, q, rfl⟩, LY.out.trans lS⟩
        · have HR0 := Lib.hid (trivial : True)
          cases htb : takeBits r n wd with
          | none =>
            have HO := Lib.hid (HON.out (HRKN.out htb))
            have HTB := Lib.hid htb
            clear htb
            go_wp2_with fail
            first
              | go_region_law (first
                  | (go_simp; go_at_call 59; refine (HTK.out _ _ _ _ _ _ ((Later.refl _).drew) (by first | exact .inl rfl | exact .inr HR0.out) (by first | rfl | omega) (by omega) rfl rfl).mono ?_; intro e wX h; obtain ⟨rfl, lX⟩ := h.no HTB.out; have LX := Lib.hid (L2.out.trans ((Later.refl w2).drew.trans lX)); clear h lX))
              | fail "no walk"
            all_goals try simp [Act.put]
            have HSX := Lib.hid (HS.out.later LX.out)
            obtain ⟨sv, hsv⟩ := HSX.out.value
            go_wp2_with (go_at_call 45; refine (at_l _ _ _ _).mono ?_; rintro e w5 ⟨q, rfl, l5⟩)
            go_ret2
            exact ⟨.inl ⟨HO.out, q, rfl⟩, LX.out.trans l5⟩
          | some us =>
            have HTB := Lib.hid htb
            have HUN := Lib.hid (takeBits_len htb).1
            have HU64 := Lib.hid (takeBits_lt htb)
            have HRK := Lib.hid (HRKS.out us htb)
            clear htb
            go_wp2_with fail
            first
              | go_region_law (first
                  | (go_simp; go_at_call 59; refine (HTK.out _ _ _ _ _ _ ((Later.refl _).drew) (by first | exact .inl rfl | exact .inr HR0.out) (by first | rfl | omega) (by omega) rfl rfl).mono ?_; intro e wX h; obtain ⟨UA, uc, rfl, uh, lX⟩ := h.yes HTB.out; have LX := Lib.hid (L2.out.trans ((Later.refl w2).drew.trans lX)); have HUH := Lib.hid uh; clear h lX uh))
              | fail "no walk"
            all_goals try simp [Act.put]
            clear hce hrl2 HTK hk1w hwdw i1 i2 i3 i4 i5 e0 hkb hk10 hkl hwd256
            go_wp2_with fail
            go_loopw [9, 64] (fun lv iv wr => PRInv t (zag u) us w wX lv iv wr) (fun _ iv _ => us.length - (intOf iv).toNat)
            case atStart => exact PRInv.mk none 0 0 0 0 rfl rfl (Nat.zero_le _) (ownG_nil _ _ _ _) (Later.refl _)
            case round =>
              obtain ⟨L, cl, j, rfl, rfl, hj, hown, lat⟩ := hrel
              by_cases hlt : j < us.length
              · obtain ⟨ub, uo, rfl, hcell⟩ : ∃ ub uo, UA = some ⟨ub, uo, none⟩ ∧ wr.cell? ⟨ub, uo + j, none⟩ = some (.int .u64 ((us[j] : Nat) : Int)) := by
                  rcases HUH.out.later lat with h | ⟨ub, uo, h1, _, hc⟩
                  · have h2 : us.length = 0 := by have h := congrArg List.length h; rw [ints_length] at h; exact h
                    omega
                  · exact ⟨ub, uo, h1, hc j _ (by rw [ints_get _ _ _ hlt])⟩
                have ha := HU64.out _ (List.getElem_mem hlt)
                have HREP := Lib.hid (show unpackV t (zag u) (us.take (j + 1)) = unpackV t (zag u) (us.take j) ++ [(t, w64 (zag u + ((us[j] : Nat) : Int)), ⟨#[]⟩)] by
                  unfold unpackV; rw [List.take_succ_eq_append_getElem hlt, List.map_append]; rfl)
                generalize us[j] = a at hcell ha HREP
                obtain ⟨v, hv⟩ : ∃ v, v = w64 (zag u + (a : Int)) := ⟨_, rfl⟩
                rw [← hv] at HREP
                have hvw : IntKind.i64.wrap (IntKind.u64.wrap (IntKind.u64.wrap (zag u) + (a : Int))) = v := by
                  rw [hv]; unfold w64
                  rw [IntKind.wrap_u64, IntKind.wrap_u64, IntKind.wrap_i64, IntKind.wrap_i64]
                  omega
                have HAS := Lib.hid ((Blk.new wr (fl [(t, v, (⟨#[]⟩ : ByteArray))]).toArray 26 _ rfl).has)
                have O2 := Lib.hid (hown.alloc (.cells (fl [(t, v, (⟨#[]⟩ : ByteArray))]).toArray 26))
                have LT2 := Lib.hid (lat.alloc (.cells (fl [(t, v, (⟨#[]⟩ : ByteArray))]).toArray 26))
                have HJ9 := Lib.hid (show j < 1000 by have := HUN.out; omega)
                have hj9 : j < 1000 := HJ9.out
                clear hown lat hv ha
                go_wp2_with (first
                  | (go_at_call 60; refine (zag_any u _ HU.out).mono ?_; rintro e w' ⟨rfl, rfl⟩)
                  | (at_builtin; refine wpList_append_g _ rfl (.tmp 68) (.tmp 77) 23 rfl wX.heap.size 26 (vagg 0 0 ⟨#[]⟩) 3 32 Tryd.underlying23 info_v rfl (by decide) _ j (fl (unpackV t (zag u) (us.take j))) rfl O2.out _ 1 1 (fl [(t, v, (⟨#[]⟩ : ByteArray))]) rfl HAS.out (by rfl) (by intro h; cases h) (fl_one _) (by have := HJ9.out; unfold maxLen; omega) (by have := HJ9.out; omega) ?_ ?_; (exact LT2.out.size); intro A2 c2 w6 o2 g2 b2 n2; have HO2 := Lib.hid o2; have HB6 := Lib.hid (Later.of (LT2.out.below.trans b2)); clear o2 g2 b2 n2))
                go_roundw
                case rel => exact PRInv.mk A2 c2 _ (j + 1) _ rfl (by omega) hlt (by rw [HREP.out, fl_append]; exact HO2.out) HB6.out
                case measure => simp [intOf]; omega
              · obtain rfl : j = us.length := by omega
                obtain ⟨l, hl⟩ : ∃ l, l = unpackV t (zag u) us := ⟨_, rfl⟩
                rw [List.take_of_length_le (Nat.le_refl _), ← hl] at hown
                rw [← hl] at HRK
                obtain ⟨nl, hnl'⟩ : ∃ nl, nl = us.length := ⟨_, rfl⟩
                have hnl : nl = l.length := by rw [hl, hnl']; unfold unpackV; rw [List.length_map]
                rw [← hnl'] at hown hlt ⊢
                have HLH := Lib.hid (Has.ownG hown)
                have HLN := Lib.hid (show l.length ≤ 1000 by have := HUN.out; omega)
                have HL64 := Lib.hid (readK_is HRK.out).2
                have LX := Lib.hid (LX.out.trans lat)
                have HSX := Lib.hid (HS.out.later LX.out)
                clear hown lat hl hnl' HUN
                have HW := Lib.hid (packWrite_n t L nl cl l wr hnl HSX.out HLN.out HLH.out HL64.out)
                have HNL := Lib.hid hnl
                clear hnl
                go_wp2_with fail
                refine HW.out.mono ?_
                rintro e wY ⟨⟨hp, p, rfl⟩ | ⟨pb, PA, pc, hp, rfl, ph, _, _, _⟩, lY⟩
                · have HO := Lib.hid (HOX.out l HRK.out (by rw [hp]; simp))
                  have LY := Lib.hid (LX.out.trans lY)
                  clear hp lY HW
                  go_wp2_with (go_at_call 61; refine (cellSame_err _ _ _ _ _ _ _ _ _ p _).mono ?_; rintro e w' ⟨rfl, rfl⟩)
                  go_ret2
                  exact ⟨.inl ⟨HO.out, p, rfl⟩, LY.out⟩
                · have LY := Lib.hid (LX.out.trans lY)
                  have HLY := Lib.hid (HLH.out.later lY)
                  by_cases heq : pb = b
                  · have HO := Lib.hid (HOY.out l HRK.out (by rw [hp, heq]))
                    have HSM := Lib.hid (cellSame_yes L (some ⟨bb, off, none⟩) PA nl cl b.length c pb.length pc b wY rfl (by rw [heq]) (HR.out.later LY.out) (heq ▸ ph))
                    clear hp lY HW heq ph
                    go_wp2_with (go_at_call 61; refine HSM.out.mono ?_; rintro e w' ⟨rfl, rfl⟩)
                    go_ret2
                    refine ⟨.inr ⟨l, L, cl, HO.out, ?_, HLY.out⟩, LY.out⟩
                    rw [← HNL.out]
                    rfl
                  · have HO := Lib.hid (HOX.out l HRK.out (by rw [hp]; intro e; injection e with e; exact heq e))
                    have HSM := Lib.hid (cellSame_no L (some ⟨bb, off, none⟩) PA nl cl b.length c pb.length pc b pb wY (HS.out.later LY.out) rfl rfl (HR.out.later LY.out) ph (putK_lt HL64.out hp) H256.out heq)
                    clear hp lY HW heq ph
                    go_wp2_with (go_at_call 61; refine HSM.out.mono ?_; rintro e w' ⟨⟨q, rfl⟩, lS⟩)
                    go_ret2
                    exact ⟨.inl ⟨HO.out, q, rfl⟩, LY.out.trans lS⟩
    · have HO := Lib.hid (HON.out (HRK0.out hT))
      have HSX := Lib.hid (HS.out.later L2.out)
      obtain ⟨sv, hsv⟩ := HSX.out.short
      clear hT hT0
      go_wp2_with (go_at_call 45; refine (at_l _ _ _ _).mono ?_; rintro e w5 ⟨q, rfl, l5⟩)
      go_ret2
      exact ⟨.inl ⟨HO.out, q, rfl⟩, L2.out.trans l5⟩

set_option maxRecDepth 100000 in
theorem packRead_no (t n : Int) (A : Option Addr) (m c : Nat) (w : World) (hs : S6 w) (h : ¬ ((1 ≤ t ∧ t ≤ 4) ∧ 0 ≤ n ∧ n ≤ 1000)) :
    Calls Tryd.prog 38 #[.int .i64 t, .int .i64 n, .slice A m c] w (WritesV none w) := by
  have hif : Tryd.prog.isIface 52 = true := by kernel_rfl
  have HA := Lib.hid (count_no t n w h hs.type hs.bound)
  clear hs h
  go_enter Tryd.func38, Tryd.ntmps38
  go_wp2_with fail
  refine HA.out.mono ?_
  rintro e w1 ⟨v, rfl, ⟨p, rfl⟩, l1⟩
  have heq := run_eql_iface_nil (P := Tryd.prog) (w := w1) 52 hif 90 (.pointer (some p))
  go_wp2_with fail
  go_ret2
  exact ⟨.inl ⟨rfl, p, rfl⟩, l1⟩

theorem packRead_any (t n : Int) (A : Option Addr) (c : Nat) (b : List Nat) (w : World) (hs : S6 w) (hr : Has w A (ints .u8 b)) (h256 : ∀ x ∈ b, x < 256) (hb : b.length ≤ 1000000) (hbc : b.length ≤ c) (hc : c ≤ 9223372036854775807) :
    Calls Tryd.prog 38 #[.int .i64 t, .int .i64 n, .slice A b.length c] w (WritesV (takeK t n b) w) := by
  by_cases h : (1 ≤ t ∧ t ≤ 4) ∧ 0 ≤ n ∧ n ≤ 1000
  · obtain ⟨m, rfl⟩ : ∃ m : Nat, n = (m : Int) := ⟨n.toNat, by omega⟩
    exact packRead_yes t m A c b w hs h.1 (by omega) hr h256 hb hbc hc
  · unfold takeK; rw [if_neg h]; exact packRead_no t n A _ c w hs h

set_option maxRecDepth 100000 in
theorem packTake_any (t n : Int) (A : Option Addr) (c : Nat) (b : List Nat) (w : World) (hs : S6 w) (hr : Has w A (ints .u8 b)) (h256 : ∀ x ∈ b, x < 256) (hb : b.length ≤ 1000000) (hbc : b.length ≤ c) (hc : c ≤ 9223372036854775807) :
    Calls Tryd.prog 18 #[.int .i64 t, .int .i64 n, .slice A b.length c] w (PutsV (takeK t n b) w) := by
  have HC := Lib.hid (packRead_any t n A c b w hs hr h256 hb hbc hc)
  clear hs hr h256 hb hbc hc
  go_enter Tryd.func18, Tryd.ntmps18
  go_wp2_with fail
  refine HC.out.mono ?_
  rintro e w1 ⟨⟨ho, p, rfl⟩ | ⟨l, B, cb, ho, rfl, h1⟩, l1⟩
  · go_wp2_with (go_at_call 37; refine (listV_no _ _ _ p _).mono ?_; rintro e w' ⟨rfl, rfl⟩)
    go_ret2
    exact ⟨.inl ⟨ho, rfl⟩, l1⟩
  · have H := Lib.hid (show PutsV (takeK t n b) w (.returned (.tuple #[.slice B l.length cb, .bool true])) w1 from ⟨.inr ⟨l, B, cb, ho, rfl, h1⟩, l1⟩)
    clear ho h1 l1
    go_wp2_with (go_at_call 37; refine (listV_yes _ _ _ _).mono ?_; rintro e w' ⟨rfl, rfl⟩)
    go_ret2
    exact H.out
end Go.Proofs.YtdhaagooiioglaaDoor
