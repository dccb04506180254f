/- The walk of DevSure. -/
import Derived.Test.YtnmldploafpbdaaDevSureM
namespace Go.Proofs.Ytnmldploafpbdaa
open Go.RowKit
set_option linter.unusedVariables false

def SuI (base p gs gn cs cn gw gt : Nat) (w : World) (iv : Value) (wr : World) : Prop :=
  ∃ i : Nat, iv = .int .i64 i ∧ i ≤ 8 ∧ DA wr base p gs gn 8 cs cn none 0 (newD 8) ∧ Blk wr gw (wantI i) 48 ∧ Blk wr gt (turnedA []) 49 ∧ Later w wr ∧ base ≤ wr.heap.size
theorem SuI.mk {base p gs gn cs cn gw gt : Nat} {w wr : World} (a : Int) (i : Nat) (ha : a = (i : Int)) (hi : i ≤ 8) (h1 : DA wr base p gs gn 8 cs cn none 0 (newD 8)) (h2 : Blk wr gw (wantI i) 48) (h3 : Blk wr gt (turnedA []) 49) (h4 : Later w wr) (h5 : base ≤ wr.heap.size) : SuI base p gs gn cs cn gw gt w (.int .i64 a) wr := by
  subst ha; exact ⟨i, rfl, hi, h1, h2, h3, h4, h5⟩

def SvI (base p gs gn gw gt n : Nat) (w : World) (iv : Value) (wr : World) : Prop :=
  ∃ i : Nat, iv = .int .i64 i ∧ i ≤ n ∧ ∃ d : D, Sv d i ∧ (∃ cs cn A cf, DA wr base p gs gn 8 cs cn A cf d) ∧ Blk wr gw (strs d.now) 48 ∧ Blk wr gt (turnedA []) 49 ∧ Later w wr ∧ base ≤ wr.heap.size
theorem SvI.mk {base p gs gn gw gt n cs cn cf : Nat} {A : Option Addr} {w wr : World} (a : Int) (i : Nat) (d : D) (ha : a = (i : Int)) (hi : i ≤ n) (h0 : Sv d i) (h1 : DA wr base p gs gn 8 cs cn A cf d) (h2 : Blk wr gw (strs d.now) 48) (h3 : Blk wr gt (turnedA []) 49) (h4 : Later w wr) (h5 : base ≤ wr.heap.size) : SvI base p gs gn gw gt n w (.int .i64 a) wr := by
  subst ha; exact ⟨i, rfl, hi, d, h0, ⟨_, _, _, _, h1⟩, h2, h3, h4, h5⟩
def SwI (base p gs gn gw gt n m : Nat) (S : List (List Nat)) (w : World) (iv : Value) (wr : World) : Prop :=
  ∃ i : Nat, iv = .int .i64 i ∧ i ≤ m ∧ ∃ d : D, Sv d (n + i) ∧ d.sure = S ∧ (∃ cs cn A cf, DA wr base p gs gn 8 cs cn A cf d) ∧ Blk wr gw (strs S) 48 ∧ Blk wr gt (turnedA d.fly) 49 ∧ Later w wr ∧ base ≤ wr.heap.size
theorem SwI.mk {base p gs gn gw gt n m cs cn cf : Nat} {A : Option Addr} {S : List (List Nat)} {w wr : World} (a : Int) (i : Nat) (d : D) (ha : a = (i : Int)) (hi : i ≤ m) (h0 : Sv d (n + i)) (hs : d.sure = S) (h1 : DA wr base p gs gn 8 cs cn A cf d) (h2 : Blk wr gw (strs S) 48) (h3 : Blk wr gt (turnedA d.fly) 49) (h4 : Later w wr) (h5 : base ≤ wr.heap.size) : SwI base p gs gn gw gt n m S w (.int .i64 a) wr := by
  subst ha; exact ⟨i, rfl, hi, d, h0, hs, ⟨_, _, _, _, h1⟩, h2, h3, h4, h5⟩
def SxI (w : World) (iv : Value) (wr : World) : Prop := ∃ i : Nat, iv = .int .i64 i ∧ i ≤ 8 ∧ Later w wr
theorem SxI.mk {w wr : World} (a : Int) (i : Nat) (ha : a = (i : Int)) (hi : i ≤ 8) (h : Later w wr) : SxI w (.int .i64 a) wr := by
  subst ha; exact ⟨i, rfl, hi, h⟩
theorem light_b {L : List DeedS} (h : lightL L = true) : ∀ x ∈ L, x.b.n ≤ 200 ∧ x.keep.n ≤ 20 := by
  unfold lightL at h
  simp at h
  exact h.1
theorem KD.blk {w w' : World} {g : Nat} {cs : Array Value} {t : TypeId} (h : Blk w g cs t) (k : KD w w') (h1 : t ≠ 31) (h2 : t ≠ 59) (h3 : t ≠ 56) : Blk w' g cs t :=
  (k.2.2.2.2 g cs t h1 h2 h3 h).trans h

set_option maxRecDepth 100000 in
set_option maxHeartbeats 8000000 in
theorem devSure_walk (A B : Option Addr) (n ca m cb : Nat) (LA LB : List DeedS) (K : BSl) (torn at_ : Int) (w : World) (hA : IsDeeds7 w A n ca LA) (hB : IsDeeds7 w B m cb LB) (hK : K.ok w) (hla : lightL LA = true) (hlb : lightL LB = true) (hk : K.n ≤ 20) :
    Calls Try.prog 4 #[.slice A n ca, .slice B m cb, .slice K.a K.n K.c, .int .i64 torn, .int .i64 at_] w fun e w' => e = .returned (.bool true) ∧ Later w w' := by
  have HB := Lib.hid (begun18_any w)
  have HA := Lib.hid hA
  have HBB := Lib.hid hB
  have HK := Lib.hid hK
  have HLA := Lib.hid hla
  have HLB := Lib.hid hlb
  have d1 : decide ((20 : Int) < (K.n : Int)) = false := by simp; omega
  have hna : n ≤ 40 := by have h := hA.1; unfold lightL at hla; simp at hla; omega
  have hmb : m ≤ 40 := by have h := hB.1; unfold lightL at hlb; simp at hlb; omega
  clear hA hB hK hla hlb
  go_enter Try.func4, Try.ntmps4
  go_wp2_with fail
  refine HB.out.mono ?_
  rintro e w1 ⟨rfl, l1⟩
  have HL1 := Lib.hid l1
  have H1 := Lib.hid (by have h := light_any A n ca LA w1 (HA.out.later l1); rw [HLA.out] at h; exact h)
  have H2 := Lib.hid (by have h := light_any B m cb LB w1 (HBB.out.later l1); rw [HLB.out] at h; exact h)
  have HNW := Lib.hid (devNew_any 8 w1 (by decide))
  clear l1 HB
  go_wp2_with fail
  refine H1.out.mono ?_
  rintro e w' ⟨rfl, rfl⟩
  go_wp2_with fail
  refine H2.out.mono ?_
  rintro e w' ⟨rfl, rfl⟩
  go_wp2_with fail
  refine HNW.out.mono ?_
  rintro e w2 ⟨p, gs, gn, cs, cn, rfl, hda, l2⟩
  obtain ⟨bs, hbs⟩ : ∃ x, x = w'.heap.size := ⟨_, rfl⟩
  rw [← hbs] at hda
  have HBS := Lib.hid (show w.heap.size ≤ bs by rw [hbs]; exact HL1.out.size)
  have HBS2 := Lib.hid (show bs ≤ w2.heap.size by rw [hbs]; exact l2.size)
  have HD2 := Lib.hid hda
  have HL2 := Lib.hid (HL1.out.trans l2)
  clear hda l2 HNW HL1 hbs H1 H2
  obtain ⟨gw, hgw⟩ : ∃ x, x = w2.heap.size := ⟨_, rfl⟩
  have L3 := Later.new w2 (.cells (wantI 0) 48)
  have W3 := Blk.new w2 (wantI 0) 48 gw hgw
  have L4 := Later.new (w2.alloc (.cells (wantI 0) 48)) (.cells (turnedA []) 49)
  have T4 := Blk.new (w2.alloc (.cells (wantI 0) 48)) (turnedA []) 49 (gw + 1) (by rw [hgw]; simp)
  have HD4 := Lib.hid ((HD2.out.later L3).later L4)
  have HW4 := Lib.hid (W3.later L4)
  have HT4 := Lib.hid T4
  have HL4 := Lib.hid (HL2.out.trans (L3.trans L4))
  have HB4 := Lib.hid (Nat.le_trans HBS2.out (L3.trans L4).size)
  have HGW := Lib.hid (show bs ≤ gw by rw [hgw]; exact HBS2.out)
  have HE := Lib.hid (show SuI bs p gs gn cs cn gw (gw + 1) w (.int .i64 0) ((w2.alloc (.cells (wantI 0) 48)).alloc (.cells (turnedA []) 49)) from SuI.mk 0 0 rfl (Nat.zero_le _) HD4.out HW4.out HT4.out HL4.out HB4.out)
  clear L3 W3 L4 T4 HD4 HW4 HT4 HL4 HB4
  go_wp2_with fail
  rw [← hgw]
  clear hgw
  go_loopw [15] (fun iv wr => SuI bs p gs gn cs cn gw (gw + 1) w iv wr) (fun iv _ => 8 - (intOf iv).toNat)
  case atStart => exact HE.out
  case round =>
    obtain ⟨i, rfl, hi, hda, hw, ht, hl, hb⟩ := hrel
    have HD := Lib.hid hda
    have HW := Lib.hid hw
    have HT := Lib.hid ht
    have HL := Lib.hid hl
    have HB := Lib.hid hb
    clear hda hw ht hl hb
    by_cases hlt : i < 8
    · have HFU := Lib.hid (full_any none 0 0 [] wr rfl (by decide) Has.nil_)
      go_wp2_with fail
      refine HFU.out.mono ?_
      rintro e w5 ⟨g5, rfl, r5, l5, _⟩
      have q := conv_str (some ⟨g5, 0, none⟩) 128 128 (fullL []) (fullL_len []).symm w5 _ (Has.row r5)
      have f5 := (HW.out.later l5).frozen i
      have k5 := (HW.out.later l5).cell i _ (wantI_get hlt)
      have HD5 := Lib.hid (HD.out.later l5)
      have HW5 := Lib.hid (HW.out.later l5)
      have HT5 := Lib.hid (HT.out.later l5)
      have HL5 := Lib.hid (HL.out.trans l5)
      have HB5 := Lib.hid (Nat.le_trans HB.out l5.size)
      rw [full_nil] at q
      clear r5 l5 HFU
      go_wp2_with fail
      have W6 := HW5.out.set_ i (.string (bstr z128))
      rw [wantI_step hlt] at W6
      have LX := HL5.out.set_ (p := ⟨gw, i, none⟩) (Nat.le_trans HBS.out HGW.out) (.string (bstr z128))
      have D6 := HD5.out.foreign HW5.out (by decide) (by decide) (by decide) (by decide) i (.string (bstr z128))
      have T6 := HT5.out.far (p := ⟨gw, i, none⟩) (show gw + 1 ≠ gw by omega) (.string (bstr z128))
      go_roundw
      case rel => exact SuI.mk _ (i + 1) (by go_num) hlt D6 W6 T6 LX (Nat.le_trans HB5.out (by simp [World.setCell]))
      case measure => simp [intOf]; omega
    · obtain rfl : i = 8 := by omega
      have HE2 := Lib.hid (show SvI bs p gs gn gw (gw + 1) n w (.int .i64 0) wr from SvI.mk 0 0 (newD 8) rfl (Nat.zero_le _) Sv.new HD.out (by rw [← wantI_end]; exact HW.out) HT.out HL.out HB.out)
      clear HD HW HT HL HB HE
      go_wp2_with fail
      have e8 : ((8 : Nat) : Int) = 8 := rfl
      rw [e8]
      clear e8
      go_loopw [16] (fun iv wr => SvI bs p gs gn gw (gw + 1) n w iv wr) (fun iv _ => n - (intOf iv).toNat)
      case atStart => exact HE2.out
      case round =>
        obtain ⟨i, rfl, hi, d, hsv, ⟨cs, cn, Af, cf, hda⟩, hw, ht, hl, hb⟩ := hrel
        have HSV := Lib.hid hsv
        have HD := Lib.hid hda
        have HW := Lib.hid hw
        have HT := Lib.hid ht
        have HL := Lib.hid hl
        have HB := Lib.hid hb
        clear hda hw ht hl hb hsv HE2
        by_cases hlt : i < n
        · have hiL : i < LA.length := by rw [HA.out.1]; exact hlt
          obtain ⟨b, off, hAo, dat⟩ := HA.out.2.1 i hiL
          obtain ⟨X, hX⟩ : ∃ X, X = LA[i] := ⟨_, rfl⟩
          have hok := HA.out.2.2.1 _ (List.getElem_mem hiL)
          have hl200 := light_b HLA.out _ (List.getElem_mem hiL)
          rw [← hX] at dat hok hl200
          obtain ⟨_, c1, _, _, _, c5, _⟩ := dat
          have C1 := Lib.hid c1
          have C5 := Lib.hid c5
          obtain ⟨r, hr8, hr⟩ := and7 X.i
          have hri : (r : Int) < 8 := by omega
          have HFU := Lib.hid (fun (W : World) (L : Later w W) => full_any X.b.a X.b.n X.b.c X.b.l W hok.2.1.1 (by have := hl200.1; omega) (hok.2.1.2.2.1.later L))
          have H256 := Lib.hid (fullL_lt hok.2.1.2.1)
          have k1 := (c1.later HL.out).out
          have k5 := (c5.later HL.out).out
          unfold BSl.v at k5
          clear hok hl200 hX hiL c1 c5
          subst hAo
          go_wp2_with fail
          go_region_law (first
            | (go_simp; go_at_call 19; refine (HFU.out _ (HL.out.trans (Later.refl wr).drew)).mono ?_; rintro e wX ⟨g5, rfl, r5, l5, _⟩; have LX := Lib.hid ((Later.refl wr).drew.trans l5); have HX := Lib.hid (HL.out.trans LX.out); have x1 := (C1.out.later HX.out).out; have BX := Lib.hid (Nat.le_trans HB.out LX.out.size); have HWR := Lib.hid (devWrite_yes bs p gs gn 8 cs cn Af cf d r (some ⟨g5, 0, none⟩) 128 (fullL X.b.l) wX (HD.out.later LX.out) hr8 (by decide) HSV.out.go (fullL_len _) (Has.row r5) H256.out (by have := HSV.out.2.2.2.2.1; omega) (by have := HSV.out.2.1; omega) BX.out (by intro h; cases h)); clear r5 l5)
            | (go_simp; go_at_call 18; refine HWR.out.mono ?_; rintro e wY ⟨rfl, ⟨cs2, cn2, A2, cf2, hda⟩, kd, bl⟩; have HD2 := Lib.hid hda; have HKD := Lib.hid kd; have HBL := Lib.hid bl; clear hda kd bl HWR x1))
          all_goals
            have LY := Later.of (HX.out.below.trans (Below.mono HBL.out HBS.out))
            have HY := Lib.hid LY
            have y1 := (C1.out.later LY).out
            have y5 := (C5.out.later LY).out
            unfold BSl.v at y5
            have HWY := Lib.hid (KD.blk (HW.out.later LX.out) HKD.out (by decide) (by decide) (by decide))
            have HTY := Lib.hid (KD.blk (HT.out.later LX.out) HKD.out (by decide) (by decide) (by decide))
            have HBY := Lib.hid (Nat.le_trans BX.out HBL.out.size)
            obtain ⟨lo, hlo⟩ : ∃ lo, d.now[r]? = some lo := ⟨_, List.getElem?_eq_getElem (by rw [HSV.out.2.2.2.1]; exact hr8)⟩
            have HLO := Lib.hid hlo
            clear LY k1 k5 HX HKD HBL BX LX HD HW HT HL HB hlo
            go_wp2_with fail
            go_region_law (first
              | (go_simp; go_at_call 19; refine (HFU.out _ (HY.out.trans (Later.refl wY).drew)).mono ?_; rintro e wZ ⟨g6, rfl, r6, l6, _⟩; have LZ := Lib.hid ((Later.refl wY).drew.trans l6); have z1 := (C1.out.later (HY.out.trans LZ.out)).out; have q := conv_str (some ⟨g6, 0, none⟩) 128 128 (fullL X.b.l) (fullL_len _).symm wZ _ (Has.row r6); have fz := (HWY.out.later LZ.out).frozen r; have kz := (HWY.out.later LZ.out).cell r _ (strs_get _ _ _ HLO.out); clear r6 l6))
            all_goals
              have W7 := (HWY.out.later LZ.out).set_ r (.string (bstr (fullL X.b.l)))
              rw [strs_set] at W7
              have L7 := (HY.out.trans LZ.out).set_ (p := ⟨gw, r, none⟩) (Nat.le_trans HBS.out HGW.out) (.string (bstr (fullL X.b.l)))
              have D7 := (HD2.out.later LZ.out).foreign (HWY.out.later LZ.out) (by decide) (by decide) (by decide) (by decide) r (.string (bstr (fullL X.b.l)))
              have T7 := (HTY.out.later LZ.out).far (p := ⟨gw, r, none⟩) (show gw + 1 ≠ gw by omega) (.string (bstr (fullL X.b.l)))
              have B7 := Nat.le_trans HBY.out LZ.out.size
              clear fz kz q z1 y1 y5
              have HR := Lib.hid (show SvI bs p gs gn gw (gw + 1) n w (.int .i64 ((i : Int) + 1)) (wZ.setCell ⟨gw, r, none⟩ (.string (bstr (fullL X.b.l)))) from SvI.mk _ (i + 1) (d.wr r (fullL X.b.l)) (by go_num) hlt (HSV.out.wr hr8) D7 W7 T7 L7 (by simpa [World.setCell] using B7))
              clear W7 L7 D7 T7 B7 HWY HTY HY HD2 HBY HLO
              go_wp2_with fail
              go_roundw
              case rel => exact HR.out
              case measure => simp [intOf]; omega
        · obtain rfl : i = n := by omega
          have HFS := Lib.hid (devFlush_any bs p gs gn 8 cs cn Af cf d wr HD.out (by decide) HSV.out.go (by have := HSV.out.2.2.2.2.1; omega) HSV.out.2.2.1 HB.out)
          go_wp2_with fail
          refine HFS.out.mono ?_
          rintro e w5 ⟨rfl, ⟨cs5, cn5, A5, cf5, hda⟩, kd, bl⟩
          have HE3 := Lib.hid (show SwI bs p gs gn gw (gw + 1) i m d.now w (.int .i64 0) w5 from SwI.mk 0 0 d.fl rfl (Nat.zero_le _) HSV.out.fl HSV.out.2.2.2.2.2.symm hda (KD.blk HW.out kd (by decide) (by decide) (by decide)) (KD.blk HT.out kd (by decide) (by decide) (by decide)) (Later.of (HL.out.below.trans (Below.mono bl HBS.out))) (Nat.le_trans HB.out bl.size))
          obtain ⟨S, hS⟩ : ∃ S, d.now = S := ⟨_, rfl⟩
          rw [hS] at HE3
          have HS8 := Lib.hid (show S.length = 8 by rw [← hS]; exact HSV.out.2.2.2.1)
          clear hda kd bl HFS HD HW HT HL HB HSV hS
          go_wp2_with fail
          go_loopw [17] (fun iv wr => SwI bs p gs gn gw (gw + 1) i m S w iv wr) (fun iv _ => m - (intOf iv).toNat)
          case atStart => exact HE3.out
          case round =>
            obtain ⟨j, rfl, hj, d, hsv, hsu, ⟨cs, cn, Af, cf, hda⟩, hw, ht, hl, hb⟩ := hrel
            have HSV := Lib.hid hsv
            have HSU := Lib.hid hsu
            have HD := Lib.hid hda
            have HW := Lib.hid hw
            have HT := Lib.hid ht
            have HL := Lib.hid hl
            have HB := Lib.hid hb
            clear hda hw ht hl hb hsv HE3 hsu
            by_cases hlt : j < m
            · have hiL : j < LB.length := by rw [HBB.out.1]; exact hlt
              obtain ⟨b, off, hAo, dat⟩ := HBB.out.2.1 j hiL
              obtain ⟨X, hX⟩ : ∃ X, X = LB[j] := ⟨_, rfl⟩
              have hok := HBB.out.2.2.1 _ (List.getElem_mem hiL)
              have hl200 := light_b HLB.out _ (List.getElem_mem hiL)
              rw [← hX] at dat hok hl200
              obtain ⟨_, c1, _, _, _, c5, _⟩ := dat
              have C1 := Lib.hid c1
              have C5 := Lib.hid c5
              obtain ⟨r, hr8, hr⟩ := and7 X.i
              have hri : (r : Int) < 8 := by omega
              have HFU := Lib.hid (fun (W : World) (L : Later w W) => full_any X.b.a X.b.n X.b.c X.b.l W hok.2.1.1 (by have := hl200.1; omega) (hok.2.1.2.2.1.later L))
              have H256 := Lib.hid (fullL_lt hok.2.1.2.1)
              have k1 := (c1.later HL.out).out
              have k5 := (c5.later HL.out).out
              unfold BSl.v at k5
              clear hok hl200 hX hiL c1 c5
              subst hAo
              go_wp2_with fail
              go_region_law (first
                | (go_simp; go_at_call 19; refine (HFU.out _ (HL.out.trans (Later.refl wr).drew)).mono ?_; rintro e wX ⟨g5, rfl, r5, l5, _⟩; have LX := Lib.hid ((Later.refl wr).drew.trans l5); have HX := Lib.hid (HL.out.trans LX.out); have x1 := (C1.out.later HX.out).out; have BX := Lib.hid (Nat.le_trans HB.out LX.out.size); have HWR := Lib.hid (devWrite_yes bs p gs gn 8 cs cn Af cf d r (some ⟨g5, 0, none⟩) 128 (fullL X.b.l) wX (HD.out.later LX.out) hr8 (by decide) HSV.out.go (fullL_len _) (Has.row r5) H256.out (by have := HSV.out.2.2.2.2.1; omega) (by have := HSV.out.2.1; omega) BX.out (by intro h; cases h)); clear r5 l5)
                | (go_simp; go_at_call 18; refine HWR.out.mono ?_; rintro e wY ⟨rfl, ⟨cs2, cn2, A2, cf2, hda⟩, kd, bl⟩; have HD2 := Lib.hid hda; have HKD := Lib.hid kd; have HBL := Lib.hid bl; clear hda kd bl HWR x1))
              all_goals
                have LY := Later.of (HX.out.below.trans (Below.mono HBL.out HBS.out))
                have HY := Lib.hid LY
                have y1 := (C1.out.later LY).out
                have HWY := Lib.hid (KD.blk (HW.out.later LX.out) HKD.out (by decide) (by decide) (by decide))
                have hty := KD.blk (HT.out.later LX.out) HKD.out (by decide) (by decide) (by decide)
                have fz := hty.frozen r
                have kz := hty.cell r _ (turnedA_get _ _ hr8)
                have HTY := Lib.hid hty
                have HBY := Lib.hid (Nat.le_trans BX.out HBL.out.size)
                clear LY k1 k5 HX HKD HBL BX LX HD HW HT HL HB hty
                go_wp2_with fail
                have W7 := HWY.out.far (p := ⟨gw + 1, r, none⟩) (show gw ≠ gw + 1 by omega) (.bool true)
                have L7 := HY.out.set_ (p := ⟨gw + 1, r, none⟩) (Nat.le_trans HBS.out (Nat.le_succ_of_le HGW.out)) (.bool true)
                have D7 := HD2.out.foreign HTY.out (by decide) (by decide) (by decide) (by decide) r (.bool true)
                have T7 := HTY.out.set_ r (.bool true)
                rw [turnedA_step d.fly r (fullL X.b.l) hr8] at T7
                go_roundw
                case rel => exact SwI.mk _ (j + 1) (d.wr r (fullL X.b.l)) (by go_num) hlt (HSV.out.wr hr8) HSU.out D7 W7 T7 L7 (by simpa [World.setCell] using HBY.out)
                case measure => simp [intOf]; omega
            · obtain rfl : j = m := by omega
              have HCR := Lib.hid (devCrash_gen bs p gs gn 8 cs cn Af cf d K.a K.n K.c K.l torn at_ wr HD.out (by decide) (by have := HSV.out.2.2.2.2.1; omega) HSV.out.2.2.1 HB.out HK.out.1 (by omega) (fun W _ bl => HK.out.2.2.1.later (Later.of (HL.out.below.trans (Below.mono bl HBS.out)))) HK.out.2.1)
              go_wp2_with fail
              refine HCR.out.mono ?_
              rintro e w9 ⟨rfl, ⟨gn9, cs9, cn9, A9, cf9, hda⟩, kd, bl⟩
              have HD9 := Lib.hid hda
              have HW9 := Lib.hid (KD.blk HW.out kd (by decide) (by decide) (by decide))
              have HT9 := Lib.hid (KD.blk HT.out kd (by decide) (by decide) (by decide))
              have HL9 := Lib.hid (show Later w w9 from Later.of (HL.out.below.trans (Below.mono bl HBS.out)))
              clear hda kd bl HCR HD HW HT HL HB
              go_wp2_with fail
              go_loopw [18] (fun iv wr => SxI w9 iv wr) (fun iv _ => 8 - (intOf iv).toNat)
              case atStart => exact SxI.mk 0 0 rfl (Nat.zero_le _) (Later.refl _)
              case round =>
                obtain ⟨k, rfl, hk8, hlx⟩ := hrel
                have HLX := Lib.hid hlx
                by_cases hlt8 : k < 8
                · have hki : (k : Int) < 8 := by omega
                  have hlen : (d.cr K.l torn at_).now.length = 8 := by rw [HD9.out.2.2.1.1]
                  obtain ⟨l, hl⟩ : ∃ l, (d.cr K.l torn at_).now[k]? = some l := ⟨_, List.getElem?_eq_getElem (by omega)⟩
                  have hrd := devRead_any bs p gs gn9 8 cs9 cn9 A9 cf9 (d.cr K.l torn at_) k wr (HD9.out.later hlx) hlt8 (by decide)
                  rw [(List.getElem?_eq_some_iff.1 hl).2] at hrd
                  have HRD := Lib.hid hrd
                  obtain ⟨ls, hls⟩ : ∃ ls, S[k]? = some ls := ⟨_, List.getElem?_eq_getElem (by rw [HS8.out]; exact hlt8)⟩
                  obtain ⟨tb, htb⟩ : ∃ tb, (d.fly.any fun x => x.1 == k) = tb := ⟨_, rfl⟩
                  have HTB := Lib.hid htb
                  have HSAME := Lib.hid (show tb = false → l = ls by
                    intro h
                    have h1 := crash_get K.l torn at_ d.fly d.sure k (not_turned (htb.trans h)) d.fly.length (Nat.le_refl _)
                    rw [HSU.out, hls] at h1
                    have h2 : (d.cr K.l torn at_).now[k]? = some ls := by rw [← h1, ← HSU.out]; rfl
                    rw [hl] at h2; exact Option.some.inj h2)
                  have hkt := turnedA_get d.fly k hlt8
                  rw [htb] at hkt
                  have HKT := Lib.hid hkt
                  have HKW := Lib.hid (strs_get S k ls hls)
                  clear hrd hlen hl hls htb hkt hlx
                  go_wp2_with fail
                  refine HRD.out.mono ?_
                  rintro e w10 ⟨vx, rfl, hbx, l10, xA, xc, rfl⟩
                  obtain ⟨bx, ox, cx, hvx, hcx, _, hh⟩ := hbx.has
                  injection hvx with hvx _ hcc
                  subst hvx hcc
                  have q := conv_str (some ⟨bx, ox, none⟩) 128 xc l hbx.1.symm w10 _ hh
                  have HL10 := Lib.hid (HLX.out.trans l10)
                  have kt := (HT9.out.later HL10.out).cell k _ HKT.out
                  have kw := (HW9.out.later HL10.out).cell k _ HKW.out
                  have HLB := Lib.hid (show 128 = l.length from hbx.1.symm)
                  clear hbx l10 HRD
                  cases tb
                  · obtain rfl := HSAME.out rfl
                    have qd := conv_str (some ⟨bx, ox, none⟩) 128 xc l HLB.out w10.drew _ (hh.later (Later.refl _).drew)
                    clear HSAME HTB hh HLB
                    go_wp2_with fail
                    go_region_law (first | fail)
                    all_goals go_wp2_with fail
                    all_goals exact ⟨SxI.mk _ (k + 1) (by go_num) hlt8 (HL10.out.trans (Later.refl _).drew), by simp [intOf]; omega⟩
                  · clear HSAME HTB hh HLB
                    go_wp2_with fail
                    go_quiet (fail)
                    all_goals go_wp2_with fail
                    exact ⟨SxI.mk _ (k + 1) (by go_num) hlt8 (HL10.out.drewN _), by simp [intOf]; omega⟩
                · obtain rfl : k = 8 := by omega
                  have HWT := Lib.hid (devWrites_any p ((i : Int) + (j : Int)) wr (by have h := (HD9.out.later hlx).c3; rw [show (d.cr K.l torn at_).writes = (i : Int) + (j : Int) by show d.writes = _; rw [HSV.out.2.1]; omega] at h; exact h))
                  clear hlx
                  go_wp2_with fail
                  refine HWT.out.mono ?_
                  rintro e w' ⟨rfl, rfl⟩
                  go_wp2_with fail
                  go_ret
                  exact ⟨rfl, HL9.out.trans HLX.out⟩
end Go.Proofs.Ytnmldploafpbdaa
