/- The walk of DevStops. -/
import Derived.Test.YtnmldploafpbdaaDevTorn
namespace Go.Proofs.Ytnmldploafpbdaa
open Go.RowKit
set_option linter.unusedVariables false

def one128 : List Nat := fullL [1]
theorem one_len : one128.length = 128 := fullL_len _
theorem one_lt : ∀ x ∈ one128, x < 256 := fullL_lt (by decide)
theorem one_0 : one128[0]? = some 1 := by decide +kernel
theorem z_0 : z128[0]? = some 0 := by decide +kernel
/-- The device behind m writes, st allowed. -/
def sD (st m : Nat) : D := ⟨List.replicate 60 z128, List.replicate m one128 ++ List.replicate (60 - m) z128, (List.range m).map (fun i => (i, one128)), (m : Int), true, (st : Int) - (m : Int)⟩
theorem sD_zero (st : Nat) : (newD 60).st (st : Int) = sD st 0 := by
  unfold D.st newD sD
  simp
theorem sD_step {st m : Nat} (h : m < st) (hs : st < 50) : (sD st m).wr m one128 = sD st (m + 1) := by
  unfold D.wr sD
  have h1 : (List.replicate m one128 ++ List.replicate (60 - m) z128).set m one128 = List.replicate (m + 1) one128 ++ List.replicate (60 - (m + 1)) z128 := by
    obtain ⟨r, hr⟩ : ∃ r, 60 - m = r + 1 := ⟨60 - m - 1, by omega⟩
    rw [hr, show 60 - (m + 1) = r by omega, List.set_append_right _ _ (by simp), List.length_replicate, Nat.sub_self, List.replicate_succ, List.set_cons_zero, List.replicate_succ', List.append_assoc]; rfl
  have h2 : wrap64 ((st : Int) - (m : Int) - 1) = (st : Int) - ((m + 1 : Nat) : Int) := by rw [IntWalk.wrap64_in _ ⟨by omega, by omega⟩]; omega
  have h3 : (m : Int) + 1 = ((m + 1 : Nat) : Int) := by omega
  have h4 : (List.range m).map (fun i => (i, one128)) ++ [(m, one128)] = (List.range (m + 1)).map (fun i => (i, one128)) := by rw [List.range_succ, List.map_append]; rfl
  simp only [h1, h2, h3, h4]
theorem sD_fly (st m : Nat) : (sD st m).fly.length = m := by simp [sD]
theorem sD_fly_lt {st m : Nat} (h : m ≤ 50) : ∀ x ∈ (sD st m).fly, x.1 < 60 := by
  intro x hx
  obtain ⟨i, hi, rfl⟩ := List.mem_map.1 hx
  have := List.mem_range.1 hi
  show i < 60
  omega
theorem sD_now {st m i : Nat} (hi : i < 60) (hm : m ≤ 60) : (sD st m).now[i]? = some (if i < m then one128 else z128) := by
  show (List.replicate m one128 ++ List.replicate (60 - m) z128)[i]? = _
  by_cases h : i < m
  · rw [if_pos h, List.getElem?_append_left (by simpa using h), List.getElem?_replicate, if_pos h]
  · rw [if_neg h, List.getElem?_append_right (by simp; omega), List.length_replicate, List.getElem?_replicate, if_pos (by omega)]

def StI (base p gs gn st tr : Nat) (w : World) (iv : Value) (wr : World) : Prop :=
  ∃ i : Nat, iv = .int .i64 i ∧ i ≤ tr ∧ (∃ cs cn A cf, DA wr base p gs gn 60 cs cn A cf (sD st (min i st))) ∧ Later w wr ∧ base ≤ wr.heap.size
theorem StI.mk {base p gs gn st tr cs cn cf : Nat} {A : Option Addr} {w wr : World} (a : Int) (i : Nat) (ha : a = (i : Int)) (hi : i ≤ tr) (h1 : DA wr base p gs gn 60 cs cn A cf (sD st (min i st))) (h2 : Later w wr) (h3 : base ≤ wr.heap.size) : StI base p gs gn st tr w (.int .i64 a) wr := by
  subst ha; exact ⟨i, rfl, hi, ⟨_, _, _, _, h1⟩, h2, h3⟩
def RdI (m : Nat) (w : World) (dv iv : Value) (wr : World) : Prop := ∃ i : Nat, iv = .int .i64 i ∧ dv = .int .i64 (min i m : Nat) ∧ i ≤ 60 ∧ Later w wr
theorem RdI.mk {m : Nat} {w wr : World} (d a : Int) (i : Nat) (ha : a = (i : Int)) (hd : d = ((min i m : Nat) : Int)) (hi : i ≤ 60) (h : Later w wr) : RdI m w (.int .i64 d) (.int .i64 a) wr := by
  subst ha hd; exact ⟨i, rfl, rfl, hi, h⟩

set_option maxRecDepth 100000 in
set_option maxHeartbeats 8000000 in
theorem devStops_walk (n k : Nat) (w : World) (hn : n < 256) (hk : k < 256) :
    Calls Try.prog 6 #[.int .u8 n, .int .u8 k] w fun e w' => e = .returned (.bool true) ∧ Later w w' := by
  have HB := Lib.hid (begun18_any w)
  obtain ⟨st, hst⟩ : ∃ st : Nat, (n : Int) % 50 = (st : Int) := ⟨n % 50, by omega⟩
  obtain ⟨tr, htr⟩ : ∃ tr : Nat, (k : Int) % 50 = (tr : Int) := ⟨k % 50, by omega⟩
  have hs50 : st < 50 := by omega
  have ht50 : tr < 50 := by omega
  go_enter Try.func6, Try.ntmps6
  go_wp2_with fail
  refine HB.out.mono ?_
  rintro e w1 ⟨rfl, l1⟩
  have HL1 := Lib.hid l1
  have HNW := Lib.hid (devNew_any 60 w1 (by decide))
  clear l1 HB
  go_wp2_with fail
  refine HNW.out.mono ?_
  rintro e w2 ⟨p, gs, gn, cs, cn, rfl, hda, l2⟩
  obtain ⟨bs, hbs⟩ : ∃ x, x = w1.heap.size := ⟨_, rfl⟩
  rw [← hbs] at hda
  have HBS := Lib.hid (show w.heap.size ≤ bs by rw [hbs]; exact HL1.out.size)
  have hb2 : bs ≤ w2.heap.size := by rw [hbs]; exact l2.size
  have HB2 := Lib.hid hb2
  have HL2 := Lib.hid (HL1.out.trans l2)
  have HSP := Lib.hid (devStop_any bs p gs gn 60 cs cn none 0 (newD 60) (st : Int) w2 hda hb2)
  clear hda l2 HNW HL1 hbs hb2
  go_wp2_with fail
  refine HSP.out.mono ?_
  rintro e w3 ⟨rfl, ⟨cs3, cn3, A3, cf3, hda⟩, kd, bl⟩
  rw [sD_zero] at hda
  have HI := Lib.hid (show StI bs p gs gn st tr w (.int .i64 0) w3 from StI.mk 0 0 rfl (Nat.zero_le _) (by rw [Nat.zero_min]; exact hda) (Later.of (HL2.out.below.trans (Below.mono bl HBS.out))) (Nat.le_trans HB2.out bl.size))
  clear hda kd bl HSP
  go_wp2_with fail
  go_loopw [9] (fun iv wr => StI bs p gs gn st tr w iv wr) (fun iv _ => tr - (intOf iv).toNat)
  case atStart => exact HI.out
  case round =>
    obtain ⟨i, rfl, hi, ⟨cs, cn, A, cf, hda⟩, hla, hbw⟩ := hrel
    have HDA := Lib.hid hda
    have HLA := Lib.hid hla
    have HBW := Lib.hid hbw
    by_cases hlt : i < tr
    · have L5 := Later.new wr (.cells (ints .u8 [1]).toArray 5)
      have HL5 := Lib.hid L5
      have HFU := Lib.hid (full_any (some ⟨wr.heap.size, 0, none⟩) 1 1 [1] _ rfl (by decide) (Has.row (Row.lit wr 5 .u8 [1])))
      have HST := Lib.hid (devStopped_any p (sD st (min i st)).stops (sD st (min i st)).left wr hda.c4 hda.c5)
      by_cases his : i < st
      · have hmin : min i st = i := by omega
        rw [hmin] at HST HDA
        rw [show ((sD st i).stops && decide ((sD st i).left ≤ 0)) = false from by show (true && decide ((st : Int) - (i : Int) ≤ 0)) = false; simp; omega] at HST
        have d1 : decide ((st : Int) ≤ (i : Int)) = false := by simp; omega
        have d2 : decide (st ≤ i) = false := by simp; omega
        clear hda hla hbw L5
        go_wp2_with fail
        refine HST.out.mono ?_
        rintro e w' ⟨rfl, rfl⟩
        go_wp2_with fail
        refine HFU.out.mono ?_
        rintro e w5 ⟨g5, rfl, r5, l5, _⟩
        have HL55 := Lib.hid (HL5.out.trans l5)
        have hb5 := Nat.le_trans HBW.out HL55.out.size
        have HWR := Lib.hid (devWrite_yes bs p gs gn 60 cs cn A cf (sD st i) i (some ⟨g5, 0, none⟩) 128 one128 w5 (HDA.out.later HL55.out) (by omega) (by decide) (by show (true && decide ((st : Int) - (i : Int) ≤ 0)) = false; simp; omega) one_len (Has.row r5) one_lt (by rw [sD_fly]; omega) (show (i : Int) ≤ 100000 ∧ (0 : Int) ≤ i by omega) hb5 (by intro h; cases h))
        have HB5 := Lib.hid hb5
        clear r5 l5 hb5 HFU HST
        go_wp2_with fail
        refine HWR.out.mono ?_
        rintro e w6 ⟨rfl, ⟨cs6, cn6, A6, cf6, hda⟩, kd, bl⟩
        rw [sD_step his hs50] at hda
        have HD6 := Lib.hid (show DA w6 bs p gs gn 60 cs6 cn6 A6 cf6 (sD st (min (i + 1) st)) by rw [show min (i + 1) st = i + 1 by omega]; exact hda)
        have HL6 := Lib.hid (show Later w w6 from Later.of ((HLA.out.trans HL55.out).below.trans (Below.mono bl HBS.out)))
        have HB6 := Lib.hid (Nat.le_trans HB5.out bl.size)
        clear hda kd bl HWR
        go_wp2_with fail
        go_roundw
        case rel => exact StI.mk _ (i + 1) (by go_num) hlt HD6.out HL6.out HB6.out
        case measure => simp [intOf]; omega
      · have hmin : min i st = st := by omega
        rw [hmin] at HST HDA
        rw [show ((sD st st).stops && decide ((sD st st).left ≤ 0)) = true from by show (true && decide ((st : Int) - (st : Int) ≤ 0)) = true; simp] at HST
        have d1 : decide ((st : Int) ≤ (i : Int)) = true := by simp; omega
        have d2 : decide (st ≤ i) = true := by simp; omega
        clear hda hla hbw L5
        go_wp2_with fail
        refine HST.out.mono ?_
        rintro e w' ⟨rfl, rfl⟩
        go_wp2_with fail
        refine HFU.out.mono ?_
        rintro e w5 ⟨g5, rfl, r5, l5, _⟩
        have HL55 := Lib.hid (HL5.out.trans l5)
        have HD5 := Lib.hid (HDA.out.later HL55.out)
        have HWR := Lib.hid (devWrite_stopped bs p gs gn 60 cs cn A cf (sD st st) i (some ⟨g5, 0, none⟩) 128 w5 HD5.out (by omega) (by show (true && decide ((st : Int) - (st : Int) ≤ 0)) = true; simp))
        have HB5 := Lib.hid (Nat.le_trans HBW.out HL55.out.size)
        clear r5 l5 HFU HST
        go_wp2_with fail
        refine HWR.out.mono ?_
        rintro e w' ⟨rfl, rfl⟩
        go_wp2_with fail
        go_roundw
        case rel => exact StI.mk _ (i + 1) (by go_num) hlt (by rw [show min (i + 1) st = st by omega]; exact HD5.out) (HLA.out.trans HL55.out) HB5.out
        case measure => simp [intOf]; omega
    · obtain rfl : i = tr := by omega
      obtain ⟨m, hm⟩ : ∃ m, m = min i st := ⟨_, rfl⟩
      rw [← hm] at HDA
      have HM := Lib.hid hm
      have hm50 : m < 50 := by omega
      clear hda hla hbw
      obtain ⟨wo, hwo⟩ : ∃ x, x = wr := ⟨_, rfl⟩
      subst hwo
      go_wp2_with fail
      go_loopw [10, 11] (fun dv iv wx => RdI m wo dv iv wx) (fun _ iv _ => 60 - (intOf iv).toNat)
      case atStart => exact RdI.mk 0 0 0 rfl (by simp) (Nat.zero_le _) (Later.refl _)
      case round =>
        obtain ⟨j, rfl, rfl, hj, hlx⟩ := hrel
        by_cases hlt2 : j < 60
        · obtain ⟨q, hq⟩ : ∃ q, min j m = q := ⟨_, rfl⟩
          obtain ⟨L, x, hLx, hL0, hx, hx1⟩ : ∃ L x, (sD st m).now[j]? = some L ∧ L[0]? = some x ∧ q + x = min (j + 1) m ∧ x ≤ 1 := by
            rw [sD_now hlt2 (by omega)]
            by_cases hjm : j < m
            · exact ⟨_, 1, by rw [if_pos hjm], one_0, by omega, by decide⟩
            · exact ⟨_, 0, by rw [if_neg hjm], z_0, by omega, by decide⟩
          have hrd := devRead_any bs p gs gn 60 cs cn A cf (sD st m) j wr (HDA.out.later hlx) hlt2 (by decide)
          rw [(List.getElem?_eq_some_iff.1 hLx).2] at hrd
          have HRD := Lib.hid hrd
          have HLX := Lib.hid hlx
          have hq60 : q ≤ 60 := by omega
          have HX := Lib.hid hx
          have HQ := Lib.hid hq
          rw [hq]
          clear hrd hLx hlx hq hx hm htr hst
          go_wp2_with fail
          refine HRD.out.mono ?_
          rintro e w10 ⟨vx, rfl, hbx, l10, xA, xc, rfl⟩
          obtain ⟨bx, ox, cx, hvx, hcx, _, _⟩ := hbx.has
          injection hvx with hvx _ hcc
          subst hvx hcc
          have k0 := hbx.at_ rfl 0 x hL0
          rw [Nat.add_zero] at k0
          have HL10 := Lib.hid (HLX.out.trans l10)
          clear hbx l10 HRD hL0
          go_wp2_with fail
          go_roundw
          case rel => exact RdI.mk _ _ (j + 1) (by go_num) (by rw [← HX.out]; go_num) hlt2 HL10.out
          case measure => simp [intOf]; omega
        · obtain rfl : j = 60 := by omega
          have HCR := Lib.hid (devCrash_any bs p gs gn 60 cs cn A cf (sD st m) none 0 0 [] (-1) 0 wr (HDA.out.later hlx) (by decide) (by rw [sD_fly]; omega) (sD_fly_lt (by omega)) (Nat.le_trans HBW.out hlx.size) rfl (by decide) Has.nil_ (by intro x hx; cases hx) (by intro b o h; cases h))
          have HL7 := Lib.hid (HLA.out.trans hlx)
          have HB7 := Lib.hid (Nat.le_trans HBW.out hlx.size)
          rw [show min 60 m = m by omega]
          obtain ⟨X, hX, hwX, hsX, hlX, hfX⟩ : ∃ X, X = (sD st m).cr [] (-1) 0 ∧ X.writes = (m : Int) ∧ X.stops = false ∧ X.left = 0 ∧ X.fly = [] := ⟨_, rfl, rfl, rfl, rfl, rfl⟩
          rw [← hX] at HCR
          clear hlx hm htr hst
          by_cases hist : i < st
          · have hmi : m = i := by have := HM.out; omega
            clear hX HM HDA HI
            subst hmi
            go_wp2_with fail
            refine HCR.out.mono ?_
            rintro e w9 ⟨rfl, ⟨gn9, cs9, cn9, A9, cf9, hda⟩, kd, bl⟩
            have HB9 := Lib.hid (Nat.le_trans HB7.out bl.size)
            have HL9 := Lib.hid (show Later w w9 from Later.of (HL7.out.below.trans (Below.mono bl HBS.out)))
            have HW9 := Lib.hid (devWrites_any p m w9 (hwX ▸ hda.c3))
            have HS9 := Lib.hid (show Calls Try.prog 26 #[dptr p] w9 fun e w' => e = .returned (.bool false) ∧ w' = w9 from devStopped_any p false 0 w9 (hsX ▸ hda.c4) (hlX ▸ hda.c5))
            have HD9 := Lib.hid hda
            clear hda kd bl HCR
            go_wp2_with fail
            refine HW9.out.mono ?_
            rintro e w' ⟨rfl, rfl⟩
            go_wp2_with fail
            refine HS9.out.mono ?_
            rintro e w' ⟨rfl, rfl⟩
            have L5 := Later.new w' (.cells (ints .u8 [5]).toArray 5)
            have HL5 := Lib.hid L5
            have HFU := Lib.hid (full_any (some ⟨w'.heap.size, 0, none⟩) 1 1 [5] _ rfl (by decide) (Has.row (Row.lit w' 5 .u8 [5])))
            clear L5 HW9 HS9
            go_wp2_with fail
            refine HFU.out.mono ?_
            rintro e w5 ⟨g5, rfl, r5, l5, _⟩
            have HL55 := Lib.hid (HL5.out.trans l5)
            have hb5 := Nat.le_trans HB9.out HL55.out.size
            have HWR := Lib.hid (devWrite_yes bs p gs gn9 60 cs9 cn9 A9 cf9 X 59 (some ⟨g5, 0, none⟩) 128 (fullL [5]) w5 (HD9.out.later HL55.out) (by decide) (by decide) (by unfold D.stopped; rw [hsX]; rfl) (fullL_len _) (Has.row r5) (fullL_lt (by decide)) (by rw [hfX]; decide) (by rw [hwX]; omega) hb5 (by intro h; cases h))
            clear r5 l5 HFU
            go_wp2_with fail
            refine HWR.out.mono ?_
            rintro e w6 ⟨rfl, ⟨cs6, cn6, A6, cf6, hda⟩, kd, bl⟩
            have HL6 := Lib.hid (show Later w w6 from Later.of ((HL9.out.trans HL55.out).below.trans (Below.mono bl HBS.out)))
            have HW6 := Lib.hid (devWrites_any p ((m : Int) + 1) w6 (by have h := hda.c3; rw [show (X.wr 59 (fullL [5])).writes = (m : Int) + 1 by show X.writes + 1 = _; rw [hwX]] at h; exact h))
            clear hda kd bl HWR hb5
            go_wp2_with fail
            refine HW6.out.mono ?_
            rintro e w' ⟨rfl, rfl⟩
            go_wp2_with fail
            go_ret
            exact ⟨rfl, HL6.out⟩
          · have hmi : m = st := by have := HM.out; omega
            clear hX HM HDA HI
            subst hmi
            go_wp2_with fail
            refine HCR.out.mono ?_
            rintro e w9 ⟨rfl, ⟨gn9, cs9, cn9, A9, cf9, hda⟩, kd, bl⟩
            have HB9 := Lib.hid (Nat.le_trans HB7.out bl.size)
            have HL9 := Lib.hid (show Later w w9 from Later.of (HL7.out.below.trans (Below.mono bl HBS.out)))
            have HW9 := Lib.hid (devWrites_any p m w9 (hwX ▸ hda.c3))
            have HS9 := Lib.hid (show Calls Try.prog 26 #[dptr p] w9 fun e w' => e = .returned (.bool false) ∧ w' = w9 from devStopped_any p false 0 w9 (hsX ▸ hda.c4) (hlX ▸ hda.c5))
            have HD9 := Lib.hid hda
            clear hda kd bl HCR
            go_wp2_with fail
            refine HW9.out.mono ?_
            rintro e w' ⟨rfl, rfl⟩
            go_wp2_with fail
            refine HS9.out.mono ?_
            rintro e w' ⟨rfl, rfl⟩
            have L5 := Later.new w' (.cells (ints .u8 [5]).toArray 5)
            have HL5 := Lib.hid L5
            have HFU := Lib.hid (full_any (some ⟨w'.heap.size, 0, none⟩) 1 1 [5] _ rfl (by decide) (Has.row (Row.lit w' 5 .u8 [5])))
            clear L5 HW9 HS9
            go_wp2_with fail
            refine HFU.out.mono ?_
            rintro e w5 ⟨g5, rfl, r5, l5, _⟩
            have HL55 := Lib.hid (HL5.out.trans l5)
            have hb5 := Nat.le_trans HB9.out HL55.out.size
            have HWR := Lib.hid (devWrite_yes bs p gs gn9 60 cs9 cn9 A9 cf9 X 59 (some ⟨g5, 0, none⟩) 128 (fullL [5]) w5 (HD9.out.later HL55.out) (by decide) (by decide) (by unfold D.stopped; rw [hsX]; rfl) (fullL_len _) (Has.row r5) (fullL_lt (by decide)) (by rw [hfX]; decide) (by rw [hwX]; omega) hb5 (by intro h; cases h))
            clear r5 l5 HFU
            go_wp2_with fail
            refine HWR.out.mono ?_
            rintro e w6 ⟨rfl, ⟨cs6, cn6, A6, cf6, hda⟩, kd, bl⟩
            have HL6 := Lib.hid (show Later w w6 from Later.of ((HL9.out.trans HL55.out).below.trans (Below.mono bl HBS.out)))
            have HW6 := Lib.hid (devWrites_any p ((m : Int) + 1) w6 (by have h := hda.c3; rw [show (X.wr 59 (fullL [5])).writes = (m : Int) + 1 by show X.writes + 1 = _; rw [hwX]] at h; exact h))
            clear hda kd bl HWR hb5
            go_wp2_with fail
            refine HW6.out.mono ?_
            rintro e w' ⟨rfl, rfl⟩
            go_wp2_with fail
            go_ret
            exact ⟨rfl, HL6.out⟩
end Go.Proofs.Ytnmldploafpbdaa
