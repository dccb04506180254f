/- The walks of the reference's readPack, read, Decode of few bits. -/
import Derived.Test.YtdhaagooiioglaaDoorRefDec
import Derived.Test.YtdhaagooiioglaaDoorRefPkE
import Derived.BigQuiet
namespace Go.Proofs.YtdhaagooiioglaaDoor
open Go.RowKit
set_option linter.unusedVariables false

/-- What readPack reads: of none, just no bytes. -/
def readKQ (t : Int) (n : Nat) (b : List Nat) : Option (List Val3) := if n = 0 then (if b = [] then some [] else none) else readK t n b
/-- Where readPack's loop stands. -/
def KRInv (t z : Int) (us : List Nat) (wb : World) (lv iv : Value) (wr : World) : Prop :=
  ∃ (L : Option Addr) (cl j : Nat), lv = .slice L j cl ∧ iv = .int .i64 (j : Int) ∧ j ≤ us.length ∧ wr.ownsRow wb.heap.size 26 3 (.slice L j cl) j (fl (unpackV t z (us.take j))) ∧ Later wb wr
theorem KRInv.mk {t z : Int} {us : List Nat} {wb wr : World} (L : Option Addr) (cl m j : Nat) (i : Int) (hm : m = j) (hi : i = (j : Int)) (h1 : j ≤ us.length) (h2 : wr.ownsRow wb.heap.size 26 3 (.slice L m cl) m (fl (unpackV t z (us.take j)))) (h3 : Later wb wr) : KRInv t z us wb (.slice L m cl) (.int .i64 i) wr := by
  subst hm hi; exact ⟨L, cl, m, rfl, rfl, h1, h2, h3⟩

set_option maxRecDepth 100000 in
set_option maxHeartbeats 4000000 in
theorem refReadPack_any (t : Int) (n : Nat) (A : Option Addr) (c : Nat) (b : List Nat) (w : World) (hn : n ≤ 1000) (hr : Has w A (ints .u8 b)) (h256 : ∀ x ∈ b, x < 256) (hb : b.length ≤ 1000000) (hbc : b.length ≤ c) (hc : c ≤ 9223372036854775807) :
    Calls Tryd.prog 65 #[.int .i64 t, .int .i64 n, .slice A b.length c] w (ReadsL (readKQ t n b) w) := by
  by_cases h0 : n = 0
  · have e0 : ((n : Int) == 0) = true := by simp [h0]
    by_cases hb0 : b = []
    · have HQ := Lib.hid (show readKQ t n b = some [] by unfold readKQ; rw [if_pos h0, if_pos hb0])
      have e1 : ((b.length : Int) == 0) = true := by simp [hb0]
      clear hr h256 h0 hb0
      go_enter Tryd.func65, Tryd.ntmps65
      go_wp2_with fail
      go_ret2
      exact ⟨.inr ⟨[], none, 0, HQ.out, rfl, Has.nil_⟩, Later.refl _⟩
    · have HQ := Lib.hid (show readKQ t n b = none by unfold readKQ; rw [if_pos h0, if_neg hb0])
      have e1 : ((b.length : Int) == 0) = false := by
        rw [beq_eq_false_iff_ne]; intro e
        exact hb0 (List.eq_nil_of_length_eq_zero (by omega))
      clear hr h256 h0 hb0
      go_enter Tryd.func65, Tryd.ntmps65
      go_wp2_with fail
      go_ret2
      exact ⟨.inl ⟨HQ.out, rfl⟩, Later.refl _⟩
  · have e0 : ((n : Int) == 0) = false := by rw [beq_eq_false_iff_ne]; omega
    obtain ⟨o, ho⟩ : ∃ o, o = readKQ t n b := ⟨_, rfl⟩
    have hoe : o = readK t n b := by rw [ho]; unfold readKQ; rw [if_neg h0]
    have HRK0 := Lib.hid (show ∀ hT : takeNum b = none, o = none from fun hT => by rw [hoe]; unfold readK; rw [if_neg h0, hT])
    have HRK1 := Lib.hid (show ∀ u k, takeNum b = some (u, k) → b.drop k = [] → o = none from fun u k hT hd => by rw [hoe]; unfold readK; rw [if_neg h0, hT]; simp only; rw [hd])
    have HRK2 := Lib.hid (show ∀ u k wd r, takeNum b = some (u, k) → b.drop k = wd :: r → o = (takeBits r n wd).map (unpackV t (zag u)) from fun u k wd r hT hd => by rw [hoe]; unfold readK; rw [if_neg h0, hT]; simp only; rw [hd])
    rw [← ho]
    have HR := Lib.hid hr
    have H256 := Lib.hid h256
    have HTN := Lib.hid (refTake_num A b.length c b w rfl hbc hr h256 hb)
    clear ho hoe hr h256 h0
    go_enter Tryd.func65, Tryd.ntmps65
    go_wp2_with fail
    refine HTN.out.mono ?_
    rintro e w2 ⟨u, k, ok, hT0, rfl, b2⟩
    have L2 := Lib.hid (Later.of b2)
    clear b2 HTN
    rcases takeR_some hT0 with ⟨rfl, hT⟩ | ⟨rfl, hT⟩
    · obtain ⟨hu64, hk1, hk3⟩ := takeNum_is H256.out hT
      have hkb : k ≤ b.length := by rw [hk1]; exact hk3.length_le
      have hk10 : k ≤ 10 := by rw [hk1]; exact putNum_le u
      have HU := Lib.hid hu64
      by_cases hk : k = b.length
      · have HO := Lib.hid (HRK1.out u k hT (List.drop_of_length_le (by omega)))
        have f0 : decide ((b.length : Int) ≤ (k : Int)) = true := decide_eq_true (by omega)
        have f1 : decide (b.length ≤ k) = true := decide_eq_true (by omega)
        have f2 : b.length ≤ k := by omega
        clear hT hk1 hk3 hu64 hT0 hk HRK0 HRK1 HRK2
        go_wp2_with fail
        go_ret2
        exact ⟨.inl ⟨HO.out, rfl⟩, L2.out⟩
      · have hkl : k < b.length := by omega
        have f0 : decide ((b.length : Int) ≤ (k : Int)) = false := by simp; omega
        have f1 : decide (b.length ≤ k) = false := by simp; omega
        have f2 : ¬ b.length ≤ k := by omega
        obtain ⟨wd, hwd⟩ : ∃ wd, wd = b[k] := ⟨_, rfl⟩
        obtain ⟨r, hrr⟩ : ∃ r, r = b.drop (k + 1) := ⟨_, rfl⟩
        have hd : b.drop k = wd :: r := by rw [hwd, hrr]; exact List.drop_eq_getElem_cons hkl
        have HRKM := Lib.hid (HRK2.out u k wd r hT hd)
        have HRKN := Lib.hid (fun (h : takeBits r n wd = none) => (show o = none by rw [HRKM.out, h]; rfl))
        have HRKS := Lib.hid (fun us (h : takeBits r n wd = some us) => (show o = some (unpackV t (zag u) us) by rw [HRKM.out, h]; rfl))
        have hrl : r.length = b.length - (k + 1) := by rw [hrr, List.length_drop]
        have hwd256 : wd < 256 := by rw [hwd]; exact H256.out _ (List.getElem_mem hkl)
        obtain ⟨bb, off, rfl, hcell⟩ : ∃ bb off, A = some ⟨bb, off, none⟩ ∧ w.cell? ⟨bb, off + k, none⟩ = some (.int .u8 (wd : Int)) := by
          rcases HR.out with h | ⟨bb, off, h1, _, hc⟩
          · have h2 : b.length = 0 := by have h := congrArg List.length h; rw [ints_length] at h; exact h
            omega
          · exact ⟨bb, off, h1, hc k _ (by rw [ints_get _ _ _ hkl, hwd])⟩
        have HRD := Lib.hid (show Has w (some ⟨bb, off + (k + 1), none⟩) (ints .u8 r) from by have h := HR.out.drop (k + 1); rw [show (ints .u8 b).drop (k + 1) = ints .u8 (b.drop (k + 1)) by simp [ints, List.map_drop], ← hrr] at h; exact h)
        have HR256 := Lib.hid (show ∀ x ∈ r, x < 256 by rw [hrr]; exact fun x hx => H256.out x (List.mem_of_mem_drop hx))
        obtain ⟨k1, hk1'⟩ : ∃ k1, k1 = k + 1 := ⟨_, rfl⟩
        rw [← hk1'] at HRD
        have hk1w : IntKind.i64.wrap ((k : Int) + 1) = (k1 : Int) := by rw [IntKind.wrap_i64]; omega
        have hwdw : IntKind.i64.wrap (wd : Int) = (wd : Int) := IntWalk.i64_in _ ⟨by omega, by omega⟩
        have i1 : (0 : Int) ≤ (k1 : Int) := by omega
        have i2 : (k1 : Int) ≤ (b.length : Int) := by omega
        have i3 : (k : Int) < (b.length : Int) := by omega
        have i4 : (0 : Int) ≤ (k : Int) := by omega
        have i5 : k1 ≤ b.length := by omega
        have hce : w2.drew.cell? ⟨bb, off + k, none⟩ = some (.int .u8 (wd : Int)) := by have h := L2.out.cell hcell; exact h
        have hrl2 : r.length = b.length - k1 := by omega
        have HTK := Lib.hid (fun (A' : Option Addr) (m' c' : Nat) (zn zk : Int) (w' : World) (lz : Later w2 w') (hA : A' = some ⟨bb, off + k1, none⟩ ∨ r = []) (hm : m' = r.length) (hzn : zn = (n : Int)) (hzk : zk = (wd : Int)) => refBitsTake_o A' m' c' r zn zk n wd w' hm hzn hzk (by
          rcases hA with hA | hA
          · rw [hA]; exact HRD.out.later (L2.out.trans lz)
          · rw [hA]; exact Has.nil_) HR256.out (by omega))
        clear hT hk1 hk3 hu64 hT0 hk hwd hrr hd HRK0 HRK1 HRK2 hcell hrl hk1' HRD HR256
        by_cases hcm : c = k1
        · have HR0 := Lib.hid (show r = [] from List.eq_nil_of_length_eq_zero (by omega))
          subst hcm
          cases htb : takeBits r n wd with
          | none =>
            have HO := Lib.hid (HRKN.out htb)
            have HTB := Lib.hid htb
            clear htb
            go_wp2_with fail
            first
              | go_region_law (first
                  | (go_simp; go_at_call 80; refine (HTK.out _ _ _ _ _ _ ((Later.refl _).drew) (by first | exact .inl rfl | exact .inr HR0.out) (by first | rfl | omega) rfl rfl).mono ?_; intro e wX h; obtain ⟨rfl, lX⟩ := h.no HTB.out; have LX := Lib.hid (L2.out.trans ((Later.refl w2).drew.trans lX)); clear h lX))
              | fail "no walk"
            all_goals try simp [Act.put]
            go_wp2_with fail
            go_ret2
            exact ⟨.inl ⟨HO.out, rfl⟩, LX.out⟩
          | some us =>
            have HTB := Lib.hid htb
            have HUN := Lib.hid (takeBits_len htb).1
            have HU64 := Lib.hid (takeBits_lt htb)
            have HO := Lib.hid (HRKS.out us htb)
            clear htb
            go_wp2_with fail
            first
              | go_region_law (first
                  | (go_simp; go_at_call 80; refine (HTK.out _ _ _ _ _ _ ((Later.refl _).drew) (by first | exact .inl rfl | exact .inr HR0.out) (by first | rfl | omega) rfl rfl).mono ?_; intro e wX h; obtain ⟨UA, uc, rfl, uh, lX⟩ := h.yes HTB.out; have LX := Lib.hid (L2.out.trans ((Later.refl w2).drew.trans lX)); have HUH := Lib.hid uh; clear h lX uh))
              | fail "no walk"
            all_goals try simp [Act.put]
            clear hce hrl2 HTK hk1w hwdw i1 i2 i3 i4 i5 e0 hkb hk10 hkl hwd256 f0 f1 f2
            have hun : us.length = n := HUN.out
            obtain ⟨nn, hnn⟩ : ∃ nn, nn = us.length := ⟨_, rfl⟩
            have HNN := Lib.hid hnn
            have hnnn : n = nn := by omega
            subst hnnn
            clear hun hnn
            go_wp2_with fail
            go_loopw [12, 13] (fun lv iv wr => KRInv t (zag u) us wX lv iv wr) (fun _ iv _ => n - (intOf iv).toNat)
            case atStart => exact KRInv.mk none 0 0 0 0 rfl rfl (Nat.zero_le _) (ownG_nil _ _ _ _) (Later.refl _)
            case round =>
              obtain ⟨L, cl, j, rfl, rfl, hj, hown, lat⟩ := hrel
              by_cases hlt : j < n
              · have hju : j < us.length := by have := HNN.out; omega
                obtain ⟨ub, uo, rfl, hcell⟩ : ∃ ub uo, UA = some ⟨ub, uo, none⟩ ∧ CellIs wX ⟨ub, uo + j, none⟩ (.int .u64 ((us[j] : Nat) : Int)) := by
                  rcases HUH.out with h | ⟨ub, uo, h1, _, hc⟩
                  · have h2 : us.length = 0 := by have h := congrArg List.length h; rw [ints_length] at h; exact h
                    omega
                  · exact ⟨ub, uo, h1, hc j _ (by rw [ints_get _ _ _ hju])⟩
                have ha := HU64.out _ (List.getElem_mem hju)
                have HREP := Lib.hid (show unpackV t (zag u) (us.take (j + 1)) = unpackV t (zag u) (us.take j) ++ [(t, w64 (zag u + ((us[j] : Nat) : Int)), ⟨#[]⟩)] by
                  unfold unpackV; rw [List.take_succ_eq_append_getElem hju, List.map_append]; rfl)
                generalize us[j] = a at hcell ha HREP
                obtain ⟨v, hv⟩ : ∃ v, v = w64 (zag u + (a : Int)) := ⟨_, rfl⟩
                rw [← hv] at HREP
                have hvw : IntKind.i64.wrap (IntKind.u64.wrap (IntKind.u64.wrap (zag u) + (a : Int))) = v := by
                  rw [hv]; unfold w64
                  rw [IntKind.wrap_u64, IntKind.wrap_u64, IntKind.wrap_i64, IntKind.wrap_i64]
                  omega
                have hce := (hcell.later lat).drew.out
                have HLATD := Lib.hid (lat.drew)
                have HAS := Lib.hid ((Blk.new wr.drew (fl [(t, v, (⟨#[]⟩ : ByteArray))]).toArray 26 _ rfl).has)
                have O2 := Lib.hid ((own_later hown (Later.refl wr).drew).alloc (.cells (fl [(t, v, (⟨#[]⟩ : ByteArray))]).toArray 26))
                have LT2 := Lib.hid (lat.drew.alloc (.cells (fl [(t, v, (⟨#[]⟩ : ByteArray))]).toArray 26))
                have hj9 : j < 1000 := by omega
                have ji0 : (0 : Int) ≤ (j : Int) := by omega
                have ji1 : (j : Int) < (n : Int) := by omega
                have hjuc : j + 1 ≤ us.length := hju
                have HJU := Lib.hid hjuc
                have hjun : (j : Int) < (us.length : Int) := by omega
                clear hown lat hv ha hcell hju hjuc hj
                go_wp2_with fail
                first
                  | go_region_law (first
                      | (go_simp; go_at_call 66; refine (refZag_any u _ HU.out).mono ?_; rintro e w' ⟨rfl, rfl⟩)
                      | (refine step_append_g (by rfl) (.tmp 54) (.tmp 66) 23 (by rfl) wX.heap.size 26 (vagg 0 0 ⟨#[]⟩) 3 32 Tryd.underlying23 info_v rfl (by decide) _ j (fl (unpackV t (zag u) (us.take j))) (by rfl) O2.out _ _ 1 1 (fl [(t, v, (⟨#[]⟩ : ByteArray))]) (by rfl) HAS.out (by rfl) (fl_one _) (by unfold maxLen; omega) (by omega) LT2.out.size ?_; intro A2 c2 w6 o2 b2 n2; have HO2 := Lib.hid o2; have HB6 := Lib.hid (Later.of (LT2.out.below.trans b2)); clear o2 b2 n2))
                  | fail "no walk"
                all_goals try simp [Act.put]
                all_goals go_wp2_with fail
                all_goals go_roundw
                all_goals first
                  | exact KRInv.mk A2 c2 _ (j + 1) _ rfl (by first | go_num | omega) HJU.out (by rw [HREP.out, fl_append]; exact HO2.out) HB6.out
                  | (simp [intOf]; omega)
                  | omega
              · obtain rfl : j = n := by have := HNN.out; omega
                rw [List.take_of_length_le (by have := HNN.out; omega)] at hown
                have LX := Lib.hid (LX.out.trans lat)
                have HLH := Lib.hid (Has.ownG hown)
                have HLL := Lib.hid (show j = (unpackV t (zag u) us).length by have := HNN.out; unfold unpackV; rw [List.length_map]; exact this)
                clear hown lat hj hlt
                go_wp2_with fail
                go_ret2
                refine ⟨.inr ⟨_, L, cl, HO.out, ?_, HLH.out⟩, LX.out⟩
                rw [← HLL.out]
                rfl
        · have HR0 := Lib.hid (trivial : True)
          cases htb : takeBits r n wd with
          | none =>
            have HO := Lib.hid (HRKN.out htb)
            have HTB := Lib.hid htb
            clear htb
            go_wp2_with fail
            first
              | go_region_law (first
                  | (go_simp; go_at_call 80; refine (HTK.out _ _ _ _ _ _ ((Later.refl _).drew) (by first | exact .inl rfl | exact .inr HR0.out) (by first | rfl | omega) rfl rfl).mono ?_; intro e wX h; obtain ⟨rfl, lX⟩ := h.no HTB.out; have LX := Lib.hid (L2.out.trans ((Later.refl w2).drew.trans lX)); clear h lX))
              | fail "no walk"
            all_goals try simp [Act.put]
            go_wp2_with fail
            go_ret2
            exact ⟨.inl ⟨HO.out, rfl⟩, LX.out⟩
          | some us =>
            have HTB := Lib.hid htb
            have HUN := Lib.hid (takeBits_len htb).1
            have HU64 := Lib.hid (takeBits_lt htb)
            have HO := Lib.hid (HRKS.out us htb)
            clear htb
            go_wp2_with fail
            first
              | go_region_law (first
                  | (go_simp; go_at_call 80; refine (HTK.out _ _ _ _ _ _ ((Later.refl _).drew) (by first | exact .inl rfl | exact .inr HR0.out) (by first | rfl | omega) rfl rfl).mono ?_; intro e wX h; obtain ⟨UA, uc, rfl, uh, lX⟩ := h.yes HTB.out; have LX := Lib.hid (L2.out.trans ((Later.refl w2).drew.trans lX)); have HUH := Lib.hid uh; clear h lX uh))
              | fail "no walk"
            all_goals try simp [Act.put]
            clear hce hrl2 HTK hk1w hwdw i1 i2 i3 i4 i5 e0 hkb hk10 hkl hwd256 f0 f1 f2
            have hun : us.length = n := HUN.out
            obtain ⟨nn, hnn⟩ : ∃ nn, nn = us.length := ⟨_, rfl⟩
            have HNN := Lib.hid hnn
            have hnnn : n = nn := by omega
            subst hnnn
            clear hun hnn
            go_wp2_with fail
            go_loopw [12, 13] (fun lv iv wr => KRInv t (zag u) us wX lv iv wr) (fun _ iv _ => n - (intOf iv).toNat)
            case atStart => exact KRInv.mk none 0 0 0 0 rfl rfl (Nat.zero_le _) (ownG_nil _ _ _ _) (Later.refl _)
            case round =>
              obtain ⟨L, cl, j, rfl, rfl, hj, hown, lat⟩ := hrel
              by_cases hlt : j < n
              · have hju : j < us.length := by have := HNN.out; omega
                obtain ⟨ub, uo, rfl, hcell⟩ : ∃ ub uo, UA = some ⟨ub, uo, none⟩ ∧ CellIs wX ⟨ub, uo + j, none⟩ (.int .u64 ((us[j] : Nat) : Int)) := by
                  rcases HUH.out with h | ⟨ub, uo, h1, _, hc⟩
                  · have h2 : us.length = 0 := by have h := congrArg List.length h; rw [ints_length] at h; exact h
                    omega
                  · exact ⟨ub, uo, h1, hc j _ (by rw [ints_get _ _ _ hju])⟩
                have ha := HU64.out _ (List.getElem_mem hju)
                have HREP := Lib.hid (show unpackV t (zag u) (us.take (j + 1)) = unpackV t (zag u) (us.take j) ++ [(t, w64 (zag u + ((us[j] : Nat) : Int)), ⟨#[]⟩)] by
                  unfold unpackV; rw [List.take_succ_eq_append_getElem hju, List.map_append]; rfl)
                generalize us[j] = a at hcell ha HREP
                obtain ⟨v, hv⟩ : ∃ v, v = w64 (zag u + (a : Int)) := ⟨_, rfl⟩
                rw [← hv] at HREP
                have hvw : IntKind.i64.wrap (IntKind.u64.wrap (IntKind.u64.wrap (zag u) + (a : Int))) = v := by
                  rw [hv]; unfold w64
                  rw [IntKind.wrap_u64, IntKind.wrap_u64, IntKind.wrap_i64, IntKind.wrap_i64]
                  omega
                have hce := (hcell.later lat).drew.out
                have HLATD := Lib.hid (lat.drew)
                have HAS := Lib.hid ((Blk.new wr.drew (fl [(t, v, (⟨#[]⟩ : ByteArray))]).toArray 26 _ rfl).has)
                have O2 := Lib.hid ((own_later hown (Later.refl wr).drew).alloc (.cells (fl [(t, v, (⟨#[]⟩ : ByteArray))]).toArray 26))
                have LT2 := Lib.hid (lat.drew.alloc (.cells (fl [(t, v, (⟨#[]⟩ : ByteArray))]).toArray 26))
                have hj9 : j < 1000 := by omega
                have ji0 : (0 : Int) ≤ (j : Int) := by omega
                have ji1 : (j : Int) < (n : Int) := by omega
                have hjuc : j + 1 ≤ us.length := hju
                have HJU := Lib.hid hjuc
                have hjun : (j : Int) < (us.length : Int) := by omega
                clear hown lat hv ha hcell hju hjuc hj
                go_wp2_with fail
                first
                  | go_region_law (first
                      | (go_simp; go_at_call 66; refine (refZag_any u _ HU.out).mono ?_; rintro e w' ⟨rfl, rfl⟩)
                      | (refine step_append_g (by rfl) (.tmp 54) (.tmp 66) 23 (by rfl) wX.heap.size 26 (vagg 0 0 ⟨#[]⟩) 3 32 Tryd.underlying23 info_v rfl (by decide) _ j (fl (unpackV t (zag u) (us.take j))) (by rfl) O2.out _ _ 1 1 (fl [(t, v, (⟨#[]⟩ : ByteArray))]) (by rfl) HAS.out (by rfl) (fl_one _) (by unfold maxLen; omega) (by omega) LT2.out.size ?_; intro A2 c2 w6 o2 b2 n2; have HO2 := Lib.hid o2; have HB6 := Lib.hid (Later.of (LT2.out.below.trans b2)); clear o2 b2 n2))
                  | fail "no walk"
                all_goals try simp [Act.put]
                all_goals go_wp2_with fail
                all_goals go_roundw
                all_goals first
                  | exact KRInv.mk A2 c2 _ (j + 1) _ rfl (by first | go_num | omega) HJU.out (by rw [HREP.out, fl_append]; exact HO2.out) HB6.out
                  | (simp [intOf]; omega)
                  | omega
              · obtain rfl : j = n := by have := HNN.out; omega
                rw [List.take_of_length_le (by have := HNN.out; omega)] at hown
                have LX := Lib.hid (LX.out.trans lat)
                have HLH := Lib.hid (Has.ownG hown)
                have HLL := Lib.hid (show j = (unpackV t (zag u) us).length by have := HNN.out; unfold unpackV; rw [List.length_map]; exact this)
                clear hown lat hj hlt
                go_wp2_with fail
                go_ret2
                refine ⟨.inr ⟨_, L, cl, HO.out, ?_, HLH.out⟩, LX.out⟩
                rw [← HLL.out]
                rfl
    · have HO := Lib.hid (HRK0.out hT)
      clear hT hT0
      go_wp2_with fail
      go_ret2
      exact ⟨.inl ⟨HO.out, rfl⟩, L2.out⟩

set_option maxRecDepth 100000 in
theorem refReadK_any (t : Int) (n : Nat) (A : Option Addr) (c : Nat) (b : List Nat) (w : World) (hn : n ≤ 1000) (hr : Has w A (ints .u8 b)) (h256 : ∀ x ∈ b, x < 256) (hb : b.length ≤ 1000000) (hbc : b.length ≤ c) (hc : c ≤ 9223372036854775807) :
    Calls Tryd.prog 40 #[.int .i64 4, .int .i64 t, .int .i64 n, .slice A b.length c] w (ReadsL (readKQ t n b) w) := by
  have HP := Lib.hid (refReadPack_any t n A c b w hn hr h256 hb hbc hc)
  clear hr h256 hb hbc hc hn
  go_enter Tryd.func40, Tryd.ntmps40
  go_wp2_with fail
  refine HP.out.mono ?_
  rintro e w1 ⟨⟨hq, rfl⟩ | ⟨l, L, cl, hq, rfl, hl⟩, l1⟩
  · go_wp2_with fail
    go_ret2
    exact ⟨.inl ⟨hq, rfl⟩, l1⟩
  · have H := Lib.hid (show ReadsL (readKQ t n b) w (.returned (.tuple #[.slice L l.length cl, .bool true])) w1 from ⟨.inr ⟨l, L, cl, hq, rfl, hl⟩, l1⟩)
    clear hq hl l1
    go_wp2_with fail
    go_ret2
    exact H.out

theorem readKQ_is {t : Int} {n : Nat} {b : List Nat} {l : List Val3} (h : readKQ t n b = some l) : readK t n b = some l := by
  unfold readKQ at h
  split at h
  · rename_i h0
    split at h
    · cases h; unfold readK; rw [if_pos h0]
    · cases h
  · exact h
theorem takeK_read {t n : Int} {b : List Nat} {l : List Val3} (h : takeK t n b = some l) : readK t n.toNat b = some l := by
  unfold takeK at h
  split at h
  · split at h
    · cases h
    · rename_i l' hr
      split at h
      · cases h; exact hr
      · cases h
  · cases h
theorem takeK_bad {t n : Int} {b : List Nat} (h : ¬ ((1 ≤ t ∧ t ≤ 4) ∧ 0 ≤ n ∧ n ≤ 1000)) : takeK t n b = none := by unfold takeK; rw [if_neg h]
theorem refDecK_any (t n : Int) (A : Option Addr) (c : Nat) (b : List Nat) (w : World) (hr : Has w A (ints .u8 b)) (h256 : ∀ x ∈ b, x < 256) (hb : b.length ≤ 1000000) (hbc : b.length ≤ c) (hc : c ≤ 9223372036854775807) :
    Calls Tryd.prog 19 #[.int .i64 4, .int .i64 t, .int .i64 n, .slice A b.length c] w (PutsV (takeK t n b) w) := by
  by_cases h : (1 ≤ t ∧ t ≤ 4) ∧ 0 ≤ n ∧ n ≤ 1000
  · obtain ⟨m, rfl⟩ : ∃ m : Nat, n = (m : Int) := ⟨n.toNat, by omega⟩
    refine refDec_gen 4 t m A c b w (putK t) _ (readKQ t m b) h.1 (by omega) hr h256 hb (fun w' l => refReadK_any t m A c b w' (by omega) (hr.later l) h256 hb hbc hc) (fun L cl l w' h1 h2 h3 => refEncK_any t L cl l w' h1 h2 h3) ?_ ?_ ?_ ?_
    · intro l hl
      obtain ⟨h1, h2⟩ := readK_is (readKQ_is hl)
      exact ⟨by omega, h2⟩
    · intro l pb hl hp
      obtain ⟨h1, h2⟩ := readK_is (readKQ_is hl)
      have := putK_le h2 hp
      exact ⟨putK_lt h2 hp, by omega⟩
    · intro l hl hln hp
      obtain ⟨h1, h2⟩ := readK_is (readKQ_is hl)
      have := takeK_put h2 (by omega) hp
      rw [hln] at this
      exact this
    · intro hno
      cases hT : takeK t (m : Int) b with
      | none => rfl
      | some l =>
        obtain ⟨h1, h2, h3, _⟩ := takeK_is hT
        have hln : l.length = m := by omega
        refine absurd h1 (hno l ?_ hln)
        unfold readKQ
        by_cases h0 : m = 0
        · obtain rfl : l = [] := List.eq_nil_of_length_eq_zero (by omega)
          obtain ⟨_, _, hb0⟩ := putK_is h1
          rw [if_pos h0, if_pos (by rw [hb0]; rfl)]
        · rw [if_neg h0]
          exact takeK_read hT
  · rw [takeK_bad h]; exact refDec_no 4 t n A _ c w h
end Go.Proofs.YtdhaagooiioglaaDoor
