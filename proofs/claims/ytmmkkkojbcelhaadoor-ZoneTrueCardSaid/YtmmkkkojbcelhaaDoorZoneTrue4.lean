/- The walk of ZoneTrue, of one test. -/
import Derived.Test.YtmmkkkojbcelhaaDoorZoneTrueH
namespace Go.Proofs.YtmmkkkojbcelhaaDoor
open Go.RowKit
set_option linter.unusedVariables false

set_option maxRecDepth 100000 in
set_option maxHeartbeats 16000000 in
theorem zoneTrue_walk4 (t : Nat) (A : Option Addr) (n c : Nat) (bs : List Nat) (op : Nat) (M : Option Addr) (m cm : Nat) (ms : List Nat) (w : World) (hs : S11 w) (hok : 1 + (op : Int) % 8 = 4) (ht : t < 256) (hop : op < 256) (hb : bs.length = n) (hn : n ≤ 60) (hr : Has w A (ints .u8 bs)) (h256 : ∀ x ∈ bs, x < 256) (hmb : ms.length = m) (hm : m ≤ 5) (hmr : Has w M (ints .u8 ms)) (hm256 : ∀ x ∈ ms, x < 256) :
    Calls Tryd.prog 3 #[.int .u8 t, .slice A n c, .int .u8 op, .slice M m cm] w fun e w' => e = .returned (.bool true) ∧ Later w w' := by
  have HB := Lib.hid (begun11_any w hs)
  have HOKK := Lib.hid hok
  clear hok
  obtain ⟨T, hT⟩ : ∃ T : Int, T = 1 + (t : Int) % 4 := ⟨_, rfl⟩
  obtain ⟨o, ho⟩ : ∃ o : Int, o = 1 + (op : Int) % 8 := ⟨_, rfl⟩
  have ho8 : 1 ≤ o ∧ o ≤ 8 := by omega
  have hT4 : 1 ≤ T ∧ T ≤ 4 := by omega
  have HT := Lib.hid hT.symm
  have HO := Lib.hid ho.symm
  have HR := Lib.hid hr
  have H256 := Lib.hid h256
  have HBS := Lib.hid hb
  have HMR := Lib.hid hmr
  have HM256 := Lib.hid hm256
  have HMB := Lib.hid hmb
  have d1 : decide ((60 : Int) < (n : Int)) = false := by simp; omega
  have d2 : decide ((5 : Int) < (m : Int)) = false := by simp; omega
  clear hs hr h256 hb hT ho hmr hm256 hmb
  go_enter Tryd.func3, Tryd.ntmps3
  go_wp2_with fail
  refine HB.out.mono ?_
  rintro e w1 ⟨rfl, l1⟩
  have HL1 := Lib.hid l1
  have HR1 := Lib.hid (HR.out.later l1)
  have HMR1 := Lib.hid (HMR.out.later l1)
  obtain ⟨g, hg⟩ : ∃ g, g = w1.heap.size := ⟨_, rfl⟩
  have B1 := Blk.new w1 #[.slice A n c, .int .i64 0] 51 g hg
  have L1 := Later.new w1 (.cells #[.slice A n c, .int .i64 0] 51)
  have HG := Lib.hid hg
  clear l1 HB HR HMR
  go_wp2_with (go_at_call 8; refine (made_any A n c _).mono ?_; rintro e w2 ⟨rfl, hw2⟩; rw [hw2] at B1 L1; clear hw2)
  rw [← HG.out, HT.out]
  clear hg d1 d2
  go_loopw [11, 12] (fun lv iv wr => ZcInv T 12 g A n c w1 lv iv wr) (fun _ i _ => 12 - (intOf i).toNat)
  case atStart => exact ZcInv.mk [] none 0 0 0 0 0 rfl rfl (Nat.zero_le _) rfl (Nat.zero_le _) (fun x hx => by cases hx) (fun x hx => by cases hx) (ownG_nil _ _ _ _) B1 L1
  case round =>
    obtain ⟨l, L, cl, j, k, rfl, rfl, hj, hlj, hk, hok, ha, hown, hpk, lat⟩ := hrel
    clear B1 L1
    have hend : ∀ (wE : World), Later wr wE → True := fun _ _ => trivial
    by_cases hlt : j < 12
    · have hji : (j : Int) < 12 := by omega
      have HOV := Lib.hid (over_any g A n c k wr hpk (by omega) hk)
      have HPK := Lib.hid hpk
      have HOK := Lib.hid hok
      have HA := Lib.hid ha
      have HOWN := Lib.hid hown
      have HLAT := Lib.hid lat
      have HLJ := Lib.hid hlj
      have hlen : l.length ≤ 1000 := by omega
      clear hok ha hown lat hpk hlj hend
      by_cases hov : n ≤ k
      · have hd : decide (n ≤ k) = true := by simpa using hov
        rw [hd] at HOV
        go_wp2_with fail
        refine HOV.out.mono ?_
        rintro e we ⟨rfl, lv⟩
        have HLAT := Lib.hid (HLAT.out.trans lv)
        have HOWN := Lib.hid (own_later HOWN.out lv)
        have HH := Lib.hid (Has.ownG HOWN.out)
        have hcap := ownG_cap HOWN.out
        have hcmx := ownG_capmax HOWN.out
        have hl12 : l.length ≤ 12 := by have := HLJ.out; omega
        clear lv HPK HOV hd hov HOWN HA HLJ hlen hji hlt
        go_wp2_with fail
        refine (made_any M m cm _).mono ?_
        rintro e w3 ⟨rfl, hw3⟩
        obtain ⟨g2, hg2⟩ : ∃ g, g = we.heap.size := ⟨_, rfl⟩
        have P2 := Blk.new we #[.slice M m cm, .int .i64 0] 51 g2 hg2
        have L2 := Later.new we (.cells #[.slice M m cm, .int .i64 0] 51)
        rw [hw3] at P2 L2
        have hmrd : Rd w3 g2 M (ints .u8 ms) := by
          have h := Rd.below (HMR1.out.later HLAT.out).rd L2.below
          rw [← hg2] at h
          exact h
        have HV := Lib.hid (value_anyN T g2 M m cm 0 ms w3 P2 (by omega) (Nat.zero_le _) HMB.out hmrd HM256.out)
        have HL2 := Lib.hid L2
        have HG2 := Lib.hid hg2
        rw [← hg2]
        clear hw3 P2 L2 hmrd hg2
        go_wp2_with fail
        refine HV.out.mono ?_
        rintro e w4 ⟨vt, vi, vs, k', hk', rfl, hv, pk, far⟩
        have L4 := Lib.hid (show Later we w4 from Later.of (Below.trans HL2.out.below (by rw [← HG2.out]; exact far.2.1)))
        have HZO := Lib.hid (zoneOf_any L l.length cl l (w4.alloc (.cells #[.int .i64 vt, .int .i64 vi, .string vs] 28)) rfl (by omega) ((HH.out.later L4.out).later (Later.new _ _)))
        have BV := Lib.hid (Blk.new w4 #[.int .i64 vt, .int .i64 vi, .string vs] 28 _ rfl)
        have L5 := Lib.hid ((HLAT.out.trans L4.out).alloc (.cells #[.int .i64 vt, .int .i64 vi, .string vs] 28))
        have HH5 := Lib.hid ((HH.out.later L4.out).later (Later.new w4 (.cells #[.int .i64 vt, .int .i64 vi, .string vs] 28)))
        clear hv pk far HV
        go_wp2_with fail
        rw [HO.out]
        refine HZO.out.mono ?_
        rintro e w5 ⟨rfl, l5⟩
        obtain ⟨nz, hnz⟩ : ∃ x : Int, x = (nullsZ l : Int) := ⟨_, rfl⟩
        obtain ⟨⟨a1, a2, a3⟩, haz⟩ : ∃ x : Val3, x = lowZs none3 l := ⟨_, rfl⟩
        obtain ⟨⟨b1, b2, b3⟩, hbz⟩ : ∃ x : Val3, x = topZs none3 l := ⟨_, rfl⟩
        rw [← hnz, ← haz, ← hbz]
        have HNZ := Lib.hid hnz
        have HAZ := Lib.hid haz
        have HBZ := Lib.hid hbz
        clear hnz haz hbz HZO
        go_wp2_with fail
        obtain ⟨gv, hgv⟩ : ∃ g, g = w4.heap.size := ⟨_, rfl⟩
        obtain ⟨gz, hgz⟩ : ∃ g, g = w5.heap.size := ⟨_, rfl⟩
        obtain ⟨w6, hw6⟩ : ∃ x, x = w5.alloc (.cells (zc nz a1 a2 a3 b1 b2 b3) 31) := ⟨_, rfl⟩
        have l6 : Later w5 w6 := hw6 ▸ Later.new _ _
        have CZ := Lib.hid (show Blk w6 gz (zc nz a1 a2 a3 b1 b2 b3) 31 from hw6 ▸ Blk.new w5 _ _ gz hgz)
        have CV := Lib.hid (show Blk w6 gv #[.int .i64 vt, .int .i64 vi, .string vs] 28 from by rw [hgv]; exact BV.out.later (l5.trans l6))
        have CH := Lib.hid (HH5.out.later (l5.trans l6))
        have L6 := Lib.hid (HL1.out.trans ((L5.out.trans l5).trans l6))
        change Code.wp _ _ _ _ (w5.alloc (.cells (zc nz a1 a2 a3 b1 b2 b3) 31))
        rw [← hw6, ← hgz, ← hgv]
        clear l5 l6 hw6 hgz hgv BV HH5 L5 HH L4 HL2 HG2
        go_loopw [16, 17] (fun av iv wr => ∃ (an : Bool) (j : Nat), av = .bool an ∧ iv = .int .i64 j ∧ j ≤ l.length ∧ (an = true → ∃ x ∈ l, passZ x o (vt, vi, vs) = true) ∧ Later w6 wr) (fun _ i _ => l.length - (intOf i).toNat)
        case atStart => exact ⟨false, 0, rfl, rfl, Nat.zero_le _, (fun h => by cases h), Later.refl _⟩
        case round =>
          obtain ⟨an, j, rfl, rfl, hj, han, lat⟩ := hrel
          have HAN := Lib.hid han
          have LAT2 := Lib.hid lat
          clear han
          by_cases hlt : j < l.length
          · obtain ⟨bb, off, hadr, c0, c1, c2⟩ := (CH.out.later lat).val3 j hlt
            subst hadr
            have HMEM := Lib.hid (List.getElem_mem hlt)
            have hof := (CH.out.later lat).drop (j * 3)
            rw [← fl_drop] at hof
            have hof1 := hof.take 3
            have hdr : (fl (l.drop j)).take 3 = fl [l[j]] := by
              rw [List.drop_eq_getElem_cons hlt]; rfl
            rw [hdr] at hof1
            rw [show l[j] = (l[j].1, l[j].2.1, l[j].2.2) from rfl] at HMEM hof1
            generalize l[j].1 = xt at c0 HMEM hof1
            generalize l[j].2.1 = xi at c1 HMEM hof1
            generalize l[j].2.2 = xs at c2 HMEM hof1
            have HOf1 := Lib.hid (fun w' (lz : Later wr w') => zoneOf_any (some ⟨bb, off + j * 3, none⟩) 1 (cl - j) [(xt, xi, xs)] w' rfl (show 1 ≤ 1000 by decide) (hof1.later lz))
            obtain ⟨cc, hcc⟩ : ∃ x, cmpV xt xi xs vt vi vs = x := ⟨_, rfl⟩
            have HCmp := Lib.hid (fun w' => refCmp_any xt xi xs vt vi vs w')
            rw [hcc] at HCmp
            have HCC := Lib.hid hcc
            have c0 := (show CellIs wr _ _ from c0).drew
            have c1 := (show CellIs wr _ _ from c1).drew
            have c2 := (show CellIs wr _ _ from c2).drew
            have BV := CV.out.later lat
            have k0 := (show CellIs wr ⟨gv, 0, none⟩ (.int .i64 vt) from BV.cell 0 _ rfl).drew
            have k1 := (show CellIs wr ⟨gv, 1, none⟩ (.int .i64 vi) from BV.cell 1 _ rfl).drew
            have k2 := (show CellIs wr ⟨gv, 2, none⟩ (.string vs) from BV.cell 2 _ rfl).drew
            have lz := (Later.refl wr).drew
            have hi1 : (0 : Int) ≤ (j : Int) := by omega
            have hi2 : (j : Int) + 1 ≤ (cl : Int) := by omega
            have hi3 : (cl : Int) - (j : Int) = ((cl - j : Nat) : Int) := by omega
            have hi4 : (j : Int) + 1 - (j : Int) = 1 := by omega
            have hi5 : (j : Int) < (l.length : Int) := by omega
            have hi6 : (j : Int) ≤ (j : Int) + 1 := by omega
            have hi7 : IntKind.i64.wrap ((j : Int) + 1) = (j : Int) + 1 := IntWalk.i64_in _ ⟨by omega, by omega⟩
            have hi8 : ¬ cl = j := by omega
            have hi9 : j + 1 - j = 1 := by omega
            clear hcc lat hof hof1 hdr BV CZ CV CH
            go_wp2_with fail
            go_region_held3 (fun w' => w'.cell? ⟨bb, off + j * 3, none⟩ = some (.int .i64 xt) ∧ w'.cell? ⟨bb, off + j * 3 + 1, none⟩ = some (.int .i64 xi) ∧ w'.cell? ⟨bb, off + j * 3 + 2, none⟩ = some (.string xs) ∧ w'.cell? ⟨gv, 0, none⟩ = some (.int .i64 vt) ∧ w'.cell? ⟨gv, 1, none⟩ = some (.int .i64 vi) ∧ w'.cell? ⟨gv, 2, none⟩ = some (.string vs)) (exact ⟨c0.out, c1.out, c2.out, k0.out, k1.out, k2.out⟩) (first | (go_at_call 12; refine (HCmp.out _).mono ?_; rintro e wX ⟨rfl, lX⟩; have lz := lz.trans lX; have c0 := c0.later lX; have c1 := c1.later lX; have c2 := c2.later lX; have k0 := k0.later lX; have k1 := k1.later lX; have k2 := k2.later lX; clear lX))
            clear HCmp
            obtain rfl : o = 4 := by have := HO.out; have := HOKK.out; omega
            by_cases hx0 : xt = 0
            · subst hx0
              have HP := Lib.hid (show passZ (0, xi, xs) 4 (vt, vi, vs) = false from by rfl)
              have HCan1 := Lib.hid (fun w' => zoneCan_any (nullsZ [((0, xi, xs) : Val3)]) 1 4 (lowZs none3 [(0, xi, xs)]) (topZs none3 [(0, xi, xs)]) (vt, vi, vs) w')
              rw [canZ_one, HP.out] at HCan1
              have hbb : ((false : Bool) != (false : Bool)) = false := by simp
              rcases an with _ | _
              all_goals have hc0 := c0.out
              all_goals have hk0 := k0.out
              all_goals go_wp2_with fail
              all_goals have lz := lz.drew
              all_goals have k0 := k0.drew
              all_goals have k1 := k1.drew
              all_goals have k2 := k2.drew
              all_goals clear hc0 hk0
              all_goals go_region_held3 (fun w' => w'.cell? ⟨gv, 0, none⟩ = some (.int .i64 vt) ∧ w'.cell? ⟨gv, 1, none⟩ = some (.int .i64 vi) ∧ w'.cell? ⟨gv, 2, none⟩ = some (.string vs)) (exact ⟨k0.out, k1.out, k2.out⟩) (first | (go_at_call 11; refine (HOf1.out _ lz).mono ?_; rintro e wX ⟨rfl, lX⟩; have lz := lz.trans lX; have k0 := k0.later lX; have k1 := k1.later lX; have k2 := k2.later lX; clear lX) | (go_at_call 13; refine (HCan1.out _).mono ?_; rintro e wX ⟨rfl, lX⟩; have lz := lz.trans lX; have k0 := k0.later lX; have k1 := k1.later lX; have k2 := k2.later lX; clear lX))
              all_goals go_wp2_with fail
              all_goals (go_roundw; (case rel => first
                  | exact ⟨_, j + 1, rfl, by go_num, hlt, (fun _ => HAN.out (by first | trivial | rfl)), LAT2.out.trans lz⟩
                  | exact ⟨_, j + 1, rfl, by go_num, hlt, (fun h => ⟨_, HMEM.out, HP.out.trans h⟩), LAT2.out.trans lz⟩
                  | exact ⟨_, j + 1, rfl, by go_num, hlt, (fun _ => ⟨_, HMEM.out, HP.out.trans (by simp; assumption)⟩), LAT2.out.trans lz⟩
                  | exact ⟨_, j + 1, rfl, by go_num, hlt, (fun h => by cases h), LAT2.out.trans lz⟩); (case measure => simp [intOf]; omega))
            · have hx1 : (xt == 0) = false := by simpa using hx0
              have hx2 : (xt != 0) = true := by simpa using hx0
              by_cases hv0 : vt = 0
              · subst hv0
                have HP := Lib.hid (show passZ (xt, xi, xs) 4 (0, vi, vs) = false from by unfold passZ; rw [if_neg (by decide), if_neg (by decide), if_pos (.inr rfl)])
                have HCan1 := Lib.hid (fun w' => zoneCan_any (nullsZ [((xt, xi, xs) : Val3)]) 1 4 (lowZs none3 [(xt, xi, xs)]) (topZs none3 [(xt, xi, xs)]) (0, vi, vs) w')
                rw [canZ_one, HP.out] at HCan1
                have hbb : ((false : Bool) != (false : Bool)) = false := by simp
                rcases an with _ | _
                all_goals have hc0 := c0.out
                all_goals have hk0 := k0.out
                all_goals go_wp2_with fail
                all_goals have lz := lz.drew
                all_goals have k0 := k0.drew
                all_goals have k1 := k1.drew
                all_goals have k2 := k2.drew
                all_goals clear hc0 hk0
                all_goals go_region_held3 (fun w' => w'.cell? ⟨gv, 0, none⟩ = some (.int .i64 0) ∧ w'.cell? ⟨gv, 1, none⟩ = some (.int .i64 vi) ∧ w'.cell? ⟨gv, 2, none⟩ = some (.string vs)) (exact ⟨k0.out, k1.out, k2.out⟩) (first | (go_at_call 11; refine (HOf1.out _ lz).mono ?_; rintro e wX ⟨rfl, lX⟩; have lz := lz.trans lX; have k0 := k0.later lX; have k1 := k1.later lX; have k2 := k2.later lX; clear lX) | (go_at_call 13; refine (HCan1.out _).mono ?_; rintro e wX ⟨rfl, lX⟩; have lz := lz.trans lX; have k0 := k0.later lX; have k1 := k1.later lX; have k2 := k2.later lX; clear lX))
                all_goals go_wp2_with fail
                all_goals (go_roundw; (case rel => first
                    | exact ⟨_, j + 1, rfl, by go_num, hlt, (fun _ => HAN.out (by first | trivial | rfl)), LAT2.out.trans lz⟩
                    | exact ⟨_, j + 1, rfl, by go_num, hlt, (fun h => ⟨_, HMEM.out, HP.out.trans h⟩), LAT2.out.trans lz⟩
                    | exact ⟨_, j + 1, rfl, by go_num, hlt, (fun _ => ⟨_, HMEM.out, HP.out.trans (by simp; assumption)⟩), LAT2.out.trans lz⟩
                    | exact ⟨_, j + 1, rfl, by go_num, hlt, (fun h => by cases h), LAT2.out.trans lz⟩); (case measure => simp [intOf]; omega))
              · have hv1 : (vt == 0) = false := by simpa using hv0
                have hv2 : (vt != 0) = true := by simpa using hv0
                have HP := Lib.hid (show passZ (xt, xi, xs) 4 (vt, vi, vs) = decide (cc ≤ 0) from by unfold passZ; rw [if_neg (by decide), if_neg (by decide), if_neg (by rintro (h | h); exact hx0 h; exact hv0 h), show cmp3 (xt, xi, xs) (vt, vi, vs) = cc from HCC.out, tellC_between (by decide)]; rfl)
                have HCan1 := Lib.hid (fun w' => zoneCan_any (nullsZ [((xt, xi, xs) : Val3)]) 1 4 (lowZs none3 [(xt, xi, xs)]) (topZs none3 [(xt, xi, xs)]) (vt, vi, vs) w')
                rw [canZ_one, HP.out] at HCan1
                have hbb : ((decide (cc ≤ 0) : Bool) != (decide (cc ≤ 0) : Bool)) = false := by simp
                rcases an with _ | _
                all_goals have hc0 := c0.out
                all_goals have hk0 := k0.out
                all_goals go_wp2_with fail
                all_goals have lz := lz.drew
                all_goals have k0 := k0.drew
                all_goals have k1 := k1.drew
                all_goals have k2 := k2.drew
                all_goals clear hc0 hk0
                all_goals go_region_held3 (fun w' => w'.cell? ⟨gv, 0, none⟩ = some (.int .i64 vt) ∧ w'.cell? ⟨gv, 1, none⟩ = some (.int .i64 vi) ∧ w'.cell? ⟨gv, 2, none⟩ = some (.string vs)) (exact ⟨k0.out, k1.out, k2.out⟩) (first | (go_at_call 11; refine (HOf1.out _ lz).mono ?_; rintro e wX ⟨rfl, lX⟩; have lz := lz.trans lX; have k0 := k0.later lX; have k1 := k1.later lX; have k2 := k2.later lX; clear lX) | (go_at_call 13; refine (HCan1.out _).mono ?_; rintro e wX ⟨rfl, lX⟩; have lz := lz.trans lX; have k0 := k0.later lX; have k1 := k1.later lX; have k2 := k2.later lX; clear lX))
                all_goals go_wp2_with fail
                all_goals (go_roundw; (case rel => first
                    | exact ⟨_, j + 1, rfl, by go_num, hlt, (fun _ => HAN.out (by first | trivial | rfl)), LAT2.out.trans lz⟩
                    | exact ⟨_, j + 1, rfl, by go_num, hlt, (fun h => ⟨_, HMEM.out, HP.out.trans h⟩), LAT2.out.trans lz⟩
                    | exact ⟨_, j + 1, rfl, by go_num, hlt, (fun _ => ⟨_, HMEM.out, HP.out.trans (by simp; assumption)⟩), LAT2.out.trans lz⟩
                    | exact ⟨_, j + 1, rfl, by go_num, hlt, (fun h => by cases h), LAT2.out.trans lz⟩); (case measure => simp [intOf]; omega))
          · have hji : ¬ (j : Int) < (l.length : Int) := by omega
            have BZ := CZ.out.later lat
            have BV := CV.out.later lat
            rcases an with _ | _
            · have LF := Lib.hid (L6.out.trans lat)
              clear lat BZ BV
              go_wp2_with fail
              go_ret
              exact ⟨rfl, LF.out⟩
            · obtain ⟨x, hxm, hxp⟩ := HAN.out rfl
              have hcan := canZ_all hxm hxp
              rw [← HNZ.out, ← HAZ.out, ← HBZ.out] at hcan
              have HCn := Lib.hid (zoneCan_any nz l.length o (a1, a2, a3) (b1, b2, b3) (vt, vi, vs) wr)
              rw [hcan] at HCn
              have z0 := BZ.cell 0 _ rfl
              have z1 := BZ.cell 1 _ rfl
              have z2 := BZ.cell 2 _ rfl
              have z3 := BZ.cell 3 _ rfl
              have z4 := BZ.cell 4 _ rfl
              have z5 := BZ.cell 5 _ rfl
              have z6 := BZ.cell 6 _ rfl
              have k0 := BV.cell 0 _ rfl
              have k1 := BV.cell 1 _ rfl
              have k2 := BV.cell 2 _ rfl
              have LF := Lib.hid (L6.out.trans lat)
              clear lat BZ BV hxm hxp hcan
              go_wp2_with fail
              refine HCn.out.mono ?_
              rintro e w9 ⟨rfl, l9⟩
              go_wp2_with fail
              go_ret
              exact ⟨rfl, LF.out.trans l9⟩
      · have hd : decide (n ≤ k) = false := by simpa using hov
        rw [hd] at HOV
        go_wp2_with fail
        refine HOV.out.mono ?_
        rintro e wv ⟨rfl, lv⟩
        have hpk := HPK.out.later lv
        have HV := Lib.hid (value_anyN T g A n c k bs wv hpk (by omega) hk HBS.out (by have h := Rd.below HR1.out (HLAT.out.trans lv).below; rw [← HG.out] at h; exact h) H256.out)
        have HLAT := Lib.hid (HLAT.out.trans lv)
        have HOWN := Lib.hid (own_later HOWN.out lv)
        clear lv hpk HPK HOV hd hov
        go_wp2_with fail
        refine HV.out.mono ?_
        rintro e w2 ⟨vt, i, s, k', hk', rfl, hv, pk, far⟩
        have L2 := Lib.hid (Later.of (Below.trans HLAT.out.below (HG.out ▸ far.2.1)) : Later w1 w2)
        have O2 := Lib.hid (far.own (Nat.lt_succ_self g) HOWN.out)
        have HF := Lib.hid (kind3_made hT4 hv)
        have HAS := Lib.hid ((Blk.new w2 (fl [(vt, i, s)]).toArray 28 w2.heap.size rfl).has)
        have P3 := Lib.hid (pk.later (Later.new w2 (.cells (fl [(vt, i, s)]).toArray 28)))
        have L3 := Lib.hid (L2.out.alloc (.cells (fl [(vt, i, s)]).toArray 28))
        clear hv pk far HV HLAT HOWN
        go_wp2_with (at_builtin; refine wpList_append_g _ rfl (.tmp 45) (.tmp 49) 26 rfl (g + 1) 28 (vagg 0 0 ⟨#[]⟩) 3 32 Tryd.underlying26 info_v rfl (by decide) _ l.length (fl l) rfl (O2.out.alloc _) _ 1 1 (fl [(vt, i, s)]) rfl HAS.out (by rfl) (by intro h; cases h) (fl_one _) (by unfold maxLen; omega) (by omega) ?_ ?_; (have h := P3.out.lt; exact h); intro A2 c2 w4 o2 _ b2 _; have HO2 := Lib.hid o2; have HB6 := Lib.hid b2; clear o2 b2)
        go_roundw
        case rel =>
          refine ZcInv.mk (l ++ [(vt, i, s)]) A2 _ c2 k' _ (j + 1) (by rw [List.length_append]; rfl) (by omega) hlt (by rw [List.length_append, HLJ.out]; rfl) hk' ?_ ?_ (by rw [fl_append]; exact HO2.out) ((Below.block HB6.out g (Nat.lt_succ_self g)).trans P3.out) (Later.of (Below.trans L3.out.below (Below.mono HB6.out (by rw [HG.out]; exact Nat.le_succ _))))
          · intro x hx
            rcases List.mem_append.1 hx with hx | hx
            · exact HOK.out x hx
            · rw [List.mem_singleton] at hx; subst hx; exact HF.out.1
          · intro x hx
            rcases List.mem_append.1 hx with hx | hx
            · exact HA.out x hx
            · rw [List.mem_singleton] at hx; subst hx; exact HF.out.2
        case measure => simp [intOf]; omega
    · have hji : ¬ (j : Int) < 12 := by omega
      obtain ⟨we, hwe⟩ : ∃ x, x = wr := ⟨_, rfl⟩
      rw [← hwe] at hown lat ⊢
      have HLAT := Lib.hid lat
      have HH := Lib.hid (Has.ownG hown)
      have hcap := ownG_cap hown
      have hcmx := ownG_capmax hown
      have hl12 : l.length ≤ 12 := by omega
      have HOK := Lib.hid hok
      clear hok ha hown lat hpk hlj hend hwe
      go_wp2_with fail
      refine (made_any M m cm _).mono ?_
      rintro e w3 ⟨rfl, hw3⟩
      obtain ⟨g2, hg2⟩ : ∃ g, g = we.heap.size := ⟨_, rfl⟩
      have P2 := Blk.new we #[.slice M m cm, .int .i64 0] 51 g2 hg2
      have L2 := Later.new we (.cells #[.slice M m cm, .int .i64 0] 51)
      rw [hw3] at P2 L2
      have hmrd : Rd w3 g2 M (ints .u8 ms) := by
        have h := Rd.below (HMR1.out.later HLAT.out).rd L2.below
        rw [← hg2] at h
        exact h
      have HV := Lib.hid (value_anyN T g2 M m cm 0 ms w3 P2 (by omega) (Nat.zero_le _) HMB.out hmrd HM256.out)
      have HL2 := Lib.hid L2
      have HG2 := Lib.hid hg2
      rw [← hg2]
      clear hw3 P2 L2 hmrd hg2
      go_wp2_with fail
      refine HV.out.mono ?_
      rintro e w4 ⟨vt, vi, vs, k', hk', rfl, hv, pk, far⟩
      have L4 := Lib.hid (show Later we w4 from Later.of (Below.trans HL2.out.below (by rw [← HG2.out]; exact far.2.1)))
      have HZO := Lib.hid (zoneOf_any L l.length cl l (w4.alloc (.cells #[.int .i64 vt, .int .i64 vi, .string vs] 28)) rfl (by omega) ((HH.out.later L4.out).later (Later.new _ _)))
      have BV := Lib.hid (Blk.new w4 #[.int .i64 vt, .int .i64 vi, .string vs] 28 _ rfl)
      have L5 := Lib.hid ((HLAT.out.trans L4.out).alloc (.cells #[.int .i64 vt, .int .i64 vi, .string vs] 28))
      have HH5 := Lib.hid ((HH.out.later L4.out).later (Later.new w4 (.cells #[.int .i64 vt, .int .i64 vi, .string vs] 28)))
      clear hv pk far HV
      go_wp2_with fail
      rw [HO.out]
      refine HZO.out.mono ?_
      rintro e w5 ⟨rfl, l5⟩
      obtain ⟨nz, hnz⟩ : ∃ x : Int, x = (nullsZ l : Int) := ⟨_, rfl⟩
      obtain ⟨⟨a1, a2, a3⟩, haz⟩ : ∃ x : Val3, x = lowZs none3 l := ⟨_, rfl⟩
      obtain ⟨⟨b1, b2, b3⟩, hbz⟩ : ∃ x : Val3, x = topZs none3 l := ⟨_, rfl⟩
      rw [← hnz, ← haz, ← hbz]
      have HNZ := Lib.hid hnz
      have HAZ := Lib.hid haz
      have HBZ := Lib.hid hbz
      clear hnz haz hbz HZO
      go_wp2_with fail
      obtain ⟨gv, hgv⟩ : ∃ g, g = w4.heap.size := ⟨_, rfl⟩
      obtain ⟨gz, hgz⟩ : ∃ g, g = w5.heap.size := ⟨_, rfl⟩
      obtain ⟨w6, hw6⟩ : ∃ x, x = w5.alloc (.cells (zc nz a1 a2 a3 b1 b2 b3) 31) := ⟨_, rfl⟩
      have l6 : Later w5 w6 := hw6 ▸ Later.new _ _
      have CZ := Lib.hid (show Blk w6 gz (zc nz a1 a2 a3 b1 b2 b3) 31 from hw6 ▸ Blk.new w5 _ _ gz hgz)
      have CV := Lib.hid (show Blk w6 gv #[.int .i64 vt, .int .i64 vi, .string vs] 28 from by rw [hgv]; exact BV.out.later (l5.trans l6))
      have CH := Lib.hid (HH5.out.later (l5.trans l6))
      have L6 := Lib.hid (HL1.out.trans ((L5.out.trans l5).trans l6))
      change Code.wp _ _ _ _ (w5.alloc (.cells (zc nz a1 a2 a3 b1 b2 b3) 31))
      rw [← hw6, ← hgz, ← hgv]
      clear l5 l6 hw6 hgz hgv BV HH5 L5 HH L4 HL2 HG2
      go_loopw [16, 17] (fun av iv wr => ∃ (an : Bool) (j : Nat), av = .bool an ∧ iv = .int .i64 j ∧ j ≤ l.length ∧ (an = true → ∃ x ∈ l, passZ x o (vt, vi, vs) = true) ∧ Later w6 wr) (fun _ i _ => l.length - (intOf i).toNat)
      case atStart => exact ⟨false, 0, rfl, rfl, Nat.zero_le _, (fun h => by cases h), Later.refl _⟩
      case round =>
        obtain ⟨an, j, rfl, rfl, hj, han, lat⟩ := hrel
        have HAN := Lib.hid han
        have LAT2 := Lib.hid lat
        clear han
        by_cases hlt : j < l.length
        · obtain ⟨bb, off, hadr, c0, c1, c2⟩ := (CH.out.later lat).val3 j hlt
          subst hadr
          have HMEM := Lib.hid (List.getElem_mem hlt)
          have hof := (CH.out.later lat).drop (j * 3)
          rw [← fl_drop] at hof
          have hof1 := hof.take 3
          have hdr : (fl (l.drop j)).take 3 = fl [l[j]] := by
            rw [List.drop_eq_getElem_cons hlt]; rfl
          rw [hdr] at hof1
          rw [show l[j] = (l[j].1, l[j].2.1, l[j].2.2) from rfl] at HMEM hof1
          generalize l[j].1 = xt at c0 HMEM hof1
          generalize l[j].2.1 = xi at c1 HMEM hof1
          generalize l[j].2.2 = xs at c2 HMEM hof1
          have HOf1 := Lib.hid (fun w' (lz : Later wr w') => zoneOf_any (some ⟨bb, off + j * 3, none⟩) 1 (cl - j) [(xt, xi, xs)] w' rfl (show 1 ≤ 1000 by decide) (hof1.later lz))
          obtain ⟨cc, hcc⟩ : ∃ x, cmpV xt xi xs vt vi vs = x := ⟨_, rfl⟩
          have HCmp := Lib.hid (fun w' => refCmp_any xt xi xs vt vi vs w')
          rw [hcc] at HCmp
          have HCC := Lib.hid hcc
          have c0 := (show CellIs wr _ _ from c0).drew
          have c1 := (show CellIs wr _ _ from c1).drew
          have c2 := (show CellIs wr _ _ from c2).drew
          have BV := CV.out.later lat
          have k0 := (show CellIs wr ⟨gv, 0, none⟩ (.int .i64 vt) from BV.cell 0 _ rfl).drew
          have k1 := (show CellIs wr ⟨gv, 1, none⟩ (.int .i64 vi) from BV.cell 1 _ rfl).drew
          have k2 := (show CellIs wr ⟨gv, 2, none⟩ (.string vs) from BV.cell 2 _ rfl).drew
          have lz := (Later.refl wr).drew
          have hi1 : (0 : Int) ≤ (j : Int) := by omega
          have hi2 : (j : Int) + 1 ≤ (cl : Int) := by omega
          have hi3 : (cl : Int) - (j : Int) = ((cl - j : Nat) : Int) := by omega
          have hi4 : (j : Int) + 1 - (j : Int) = 1 := by omega
          have hi5 : (j : Int) < (l.length : Int) := by omega
          have hi6 : (j : Int) ≤ (j : Int) + 1 := by omega
          have hi7 : IntKind.i64.wrap ((j : Int) + 1) = (j : Int) + 1 := IntWalk.i64_in _ ⟨by omega, by omega⟩
          have hi8 : ¬ cl = j := by omega
          have hi9 : j + 1 - j = 1 := by omega
          clear hcc lat hof hof1 hdr BV CZ CV CH
          go_wp2_with fail
          go_region_held3 (fun w' => w'.cell? ⟨bb, off + j * 3, none⟩ = some (.int .i64 xt) ∧ w'.cell? ⟨bb, off + j * 3 + 1, none⟩ = some (.int .i64 xi) ∧ w'.cell? ⟨bb, off + j * 3 + 2, none⟩ = some (.string xs) ∧ w'.cell? ⟨gv, 0, none⟩ = some (.int .i64 vt) ∧ w'.cell? ⟨gv, 1, none⟩ = some (.int .i64 vi) ∧ w'.cell? ⟨gv, 2, none⟩ = some (.string vs)) (exact ⟨c0.out, c1.out, c2.out, k0.out, k1.out, k2.out⟩) (first | (go_at_call 12; refine (HCmp.out _).mono ?_; rintro e wX ⟨rfl, lX⟩; have lz := lz.trans lX; have c0 := c0.later lX; have c1 := c1.later lX; have c2 := c2.later lX; have k0 := k0.later lX; have k1 := k1.later lX; have k2 := k2.later lX; clear lX))
          clear HCmp
          obtain rfl : o = 4 := by have := HO.out; have := HOKK.out; omega
          by_cases hx0 : xt = 0
          · subst hx0
            have HP := Lib.hid (show passZ (0, xi, xs) 4 (vt, vi, vs) = false from by rfl)
            have HCan1 := Lib.hid (fun w' => zoneCan_any (nullsZ [((0, xi, xs) : Val3)]) 1 4 (lowZs none3 [(0, xi, xs)]) (topZs none3 [(0, xi, xs)]) (vt, vi, vs) w')
            rw [canZ_one, HP.out] at HCan1
            have hbb : ((false : Bool) != (false : Bool)) = false := by simp
            rcases an with _ | _
            all_goals have hc0 := c0.out
            all_goals have hk0 := k0.out
            all_goals go_wp2_with fail
            all_goals have lz := lz.drew
            all_goals have k0 := k0.drew
            all_goals have k1 := k1.drew
            all_goals have k2 := k2.drew
            all_goals clear hc0 hk0
            all_goals go_region_held3 (fun w' => w'.cell? ⟨gv, 0, none⟩ = some (.int .i64 vt) ∧ w'.cell? ⟨gv, 1, none⟩ = some (.int .i64 vi) ∧ w'.cell? ⟨gv, 2, none⟩ = some (.string vs)) (exact ⟨k0.out, k1.out, k2.out⟩) (first | (go_at_call 11; refine (HOf1.out _ lz).mono ?_; rintro e wX ⟨rfl, lX⟩; have lz := lz.trans lX; have k0 := k0.later lX; have k1 := k1.later lX; have k2 := k2.later lX; clear lX) | (go_at_call 13; refine (HCan1.out _).mono ?_; rintro e wX ⟨rfl, lX⟩; have lz := lz.trans lX; have k0 := k0.later lX; have k1 := k1.later lX; have k2 := k2.later lX; clear lX))
            all_goals go_wp2_with fail
            all_goals (go_roundw; (case rel => first
                | exact ⟨_, j + 1, rfl, by go_num, hlt, (fun _ => HAN.out (by first | trivial | rfl)), LAT2.out.trans lz⟩
                | exact ⟨_, j + 1, rfl, by go_num, hlt, (fun h => ⟨_, HMEM.out, HP.out.trans h⟩), LAT2.out.trans lz⟩
                | exact ⟨_, j + 1, rfl, by go_num, hlt, (fun _ => ⟨_, HMEM.out, HP.out.trans (by simp; assumption)⟩), LAT2.out.trans lz⟩
                | exact ⟨_, j + 1, rfl, by go_num, hlt, (fun h => by cases h), LAT2.out.trans lz⟩); (case measure => simp [intOf]; omega))
          · have hx1 : (xt == 0) = false := by simpa using hx0
            have hx2 : (xt != 0) = true := by simpa using hx0
            by_cases hv0 : vt = 0
            · subst hv0
              have HP := Lib.hid (show passZ (xt, xi, xs) 4 (0, vi, vs) = false from by unfold passZ; rw [if_neg (by decide), if_neg (by decide), if_pos (.inr rfl)])
              have HCan1 := Lib.hid (fun w' => zoneCan_any (nullsZ [((xt, xi, xs) : Val3)]) 1 4 (lowZs none3 [(xt, xi, xs)]) (topZs none3 [(xt, xi, xs)]) (0, vi, vs) w')
              rw [canZ_one, HP.out] at HCan1
              have hbb : ((false : Bool) != (false : Bool)) = false := by simp
              rcases an with _ | _
              all_goals have hc0 := c0.out
              all_goals have hk0 := k0.out
              all_goals go_wp2_with fail
              all_goals have lz := lz.drew
              all_goals have k0 := k0.drew
              all_goals have k1 := k1.drew
              all_goals have k2 := k2.drew
              all_goals clear hc0 hk0
              all_goals go_region_held3 (fun w' => w'.cell? ⟨gv, 0, none⟩ = some (.int .i64 0) ∧ w'.cell? ⟨gv, 1, none⟩ = some (.int .i64 vi) ∧ w'.cell? ⟨gv, 2, none⟩ = some (.string vs)) (exact ⟨k0.out, k1.out, k2.out⟩) (first | (go_at_call 11; refine (HOf1.out _ lz).mono ?_; rintro e wX ⟨rfl, lX⟩; have lz := lz.trans lX; have k0 := k0.later lX; have k1 := k1.later lX; have k2 := k2.later lX; clear lX) | (go_at_call 13; refine (HCan1.out _).mono ?_; rintro e wX ⟨rfl, lX⟩; have lz := lz.trans lX; have k0 := k0.later lX; have k1 := k1.later lX; have k2 := k2.later lX; clear lX))
              all_goals go_wp2_with fail
              all_goals (go_roundw; (case rel => first
                  | exact ⟨_, j + 1, rfl, by go_num, hlt, (fun _ => HAN.out (by first | trivial | rfl)), LAT2.out.trans lz⟩
                  | exact ⟨_, j + 1, rfl, by go_num, hlt, (fun h => ⟨_, HMEM.out, HP.out.trans h⟩), LAT2.out.trans lz⟩
                  | exact ⟨_, j + 1, rfl, by go_num, hlt, (fun _ => ⟨_, HMEM.out, HP.out.trans (by simp; assumption)⟩), LAT2.out.trans lz⟩
                  | exact ⟨_, j + 1, rfl, by go_num, hlt, (fun h => by cases h), LAT2.out.trans lz⟩); (case measure => simp [intOf]; omega))
            · have hv1 : (vt == 0) = false := by simpa using hv0
              have hv2 : (vt != 0) = true := by simpa using hv0
              have HP := Lib.hid (show passZ (xt, xi, xs) 4 (vt, vi, vs) = decide (cc ≤ 0) from by unfold passZ; rw [if_neg (by decide), if_neg (by decide), if_neg (by rintro (h | h); exact hx0 h; exact hv0 h), show cmp3 (xt, xi, xs) (vt, vi, vs) = cc from HCC.out, tellC_between (by decide)]; rfl)
              have HCan1 := Lib.hid (fun w' => zoneCan_any (nullsZ [((xt, xi, xs) : Val3)]) 1 4 (lowZs none3 [(xt, xi, xs)]) (topZs none3 [(xt, xi, xs)]) (vt, vi, vs) w')
              rw [canZ_one, HP.out] at HCan1
              have hbb : ((decide (cc ≤ 0) : Bool) != (decide (cc ≤ 0) : Bool)) = false := by simp
              rcases an with _ | _
              all_goals have hc0 := c0.out
              all_goals have hk0 := k0.out
              all_goals go_wp2_with fail
              all_goals have lz := lz.drew
              all_goals have k0 := k0.drew
              all_goals have k1 := k1.drew
              all_goals have k2 := k2.drew
              all_goals clear hc0 hk0
              all_goals go_region_held3 (fun w' => w'.cell? ⟨gv, 0, none⟩ = some (.int .i64 vt) ∧ w'.cell? ⟨gv, 1, none⟩ = some (.int .i64 vi) ∧ w'.cell? ⟨gv, 2, none⟩ = some (.string vs)) (exact ⟨k0.out, k1.out, k2.out⟩) (first | (go_at_call 11; refine (HOf1.out _ lz).mono ?_; rintro e wX ⟨rfl, lX⟩; have lz := lz.trans lX; have k0 := k0.later lX; have k1 := k1.later lX; have k2 := k2.later lX; clear lX) | (go_at_call 13; refine (HCan1.out _).mono ?_; rintro e wX ⟨rfl, lX⟩; have lz := lz.trans lX; have k0 := k0.later lX; have k1 := k1.later lX; have k2 := k2.later lX; clear lX))
              all_goals go_wp2_with fail
              all_goals (go_roundw; (case rel => first
                  | exact ⟨_, j + 1, rfl, by go_num, hlt, (fun _ => HAN.out (by first | trivial | rfl)), LAT2.out.trans lz⟩
                  | exact ⟨_, j + 1, rfl, by go_num, hlt, (fun h => ⟨_, HMEM.out, HP.out.trans h⟩), LAT2.out.trans lz⟩
                  | exact ⟨_, j + 1, rfl, by go_num, hlt, (fun _ => ⟨_, HMEM.out, HP.out.trans (by simp; assumption)⟩), LAT2.out.trans lz⟩
                  | exact ⟨_, j + 1, rfl, by go_num, hlt, (fun h => by cases h), LAT2.out.trans lz⟩); (case measure => simp [intOf]; omega))
        · have hji : ¬ (j : Int) < (l.length : Int) := by omega
          have BZ := CZ.out.later lat
          have BV := CV.out.later lat
          rcases an with _ | _
          · have LF := Lib.hid (L6.out.trans lat)
            clear lat BZ BV
            go_wp2_with fail
            go_ret
            exact ⟨rfl, LF.out⟩
          · obtain ⟨x, hxm, hxp⟩ := HAN.out rfl
            have hcan := canZ_all hxm hxp
            rw [← HNZ.out, ← HAZ.out, ← HBZ.out] at hcan
            have HCn := Lib.hid (zoneCan_any nz l.length o (a1, a2, a3) (b1, b2, b3) (vt, vi, vs) wr)
            rw [hcan] at HCn
            have z0 := BZ.cell 0 _ rfl
            have z1 := BZ.cell 1 _ rfl
            have z2 := BZ.cell 2 _ rfl
            have z3 := BZ.cell 3 _ rfl
            have z4 := BZ.cell 4 _ rfl
            have z5 := BZ.cell 5 _ rfl
            have z6 := BZ.cell 6 _ rfl
            have k0 := BV.cell 0 _ rfl
            have k1 := BV.cell 1 _ rfl
            have k2 := BV.cell 2 _ rfl
            have LF := Lib.hid (L6.out.trans lat)
            clear lat BZ BV hxm hxp hcan
            go_wp2_with fail
            refine HCn.out.mono ?_
            rintro e w9 ⟨rfl, l9⟩
            go_wp2_with fail
            go_ret
            exact ⟨rfl, LF.out.trans l9⟩
end Go.Proofs.YtmmkkkojbcelhaaDoor
