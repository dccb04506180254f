/- LogAnew. -/
import Derived.Test.YtfplppldojlanaaDoorLogU
import Derived.Test.YtfplppldojlanaaDoorLogFull
namespace Go.Proofs.YtfplppldojlanaaDoor
open Go.RowKit
set_option linter.unusedVariables false

/-- Where LogAnew's loop stands. -/
def AnI (W1 : World) (p gs gn B : Nat) (N : Nat) (xv iv : Value) (wr : World) : Prop :=
  ∃ (i q wn used : Nat) (recs now : List (List Nat)), xv = lptr q ∧ iv = .int .i64 i ∧ i ≤ N ∧ LgS 40 (2 + 2 * i) recs now ∧ LayP W1.heap.size p gs gn B q 40 (2 + 2 * i) used 0 wn now wr wr ∧ wn ≤ 200 + 200 * i ∧ Later W1 wr ∧ W1.heap.size ≤ q ∧ used ≤ 100
theorem AnI.mk {W1 wr : World} {p gs gn B N : Nat} (x : Int) (i q wn used : Nat) (recs now : List (List Nat)) (hx : x = (i : Int)) (h1 : i ≤ N) (h2 : LgS 40 (2 + 2 * i) recs now) (h3 : LayP W1.heap.size p gs gn B q 40 (2 + 2 * i) used 0 wn now wr wr) (h4 : wn ≤ 200 + 200 * i) (h5 : Later W1 wr) (h6 : W1.heap.size ≤ q) (h7 : used ≤ 100) : AnI W1 p gs gn B N (lptr q) (.int .i64 x) wr := by
  subst hx; exact ⟨i, q, wn, used, recs, now, rfl, rfl, h1, h2, h3, h4, h5, h6, h7⟩
def AnL (L : List SlB) (w : World) (iv : Value) (wr : World) : Prop := ∃ i : Nat, iv = .int .i64 i ∧ i ≤ L.length ∧ wr = w ∧ ∀ j, (h : j < L.length) → j < i → L[j].l.length ≤ 300
theorem AnL.mk {L : List SlB} {w : World} (a : Int) (i : Nat) (ha : a = (i : Int)) (hi : i ≤ L.length) (h : ∀ j, (h : j < L.length) → j < i → L[j].l.length ≤ 300) : AnL L w (.int .i64 a) w := by
  subst ha; exact ⟨i, rfl, hi, rfl, h⟩
theorem isDeeds_one {w : World} {g : Nat} (h : Blk w g #[.int .i64 0, nilv, nilv, nilv, .int .i64 0, .int .i64 0] 39) : IsDeedsL w (some ⟨g, 0, none⟩) 1 1 [default] := by
  refine ⟨rfl, fun i hi => ?_, fun x hx => ?_, by decide⟩
  · obtain rfl : i = 0 := by simpa using hi
    exact ⟨g, 0, rfl, h.cell 0 _ rfl, h.cell 1 _ rfl, h.cell 2 _ rfl, h.cell 3 _ rfl, h.cell 4 _ rfl, h.cell 5 _ rfl⟩
  · rw [List.mem_singleton] at hx
    subst hx
    have hb : (⟨none, 0, []⟩ : SlB).okB w := ⟨(fun x hx => by cases hx), .inl rfl, fun _ => rfl, Nat.le_refl _, by decide⟩
    exact ⟨by constructor <;> decide, by constructor <;> decide, by constructor <;> decide, hb, hb, rfl, .inl rfl, (fun s hs => by cases hs), (fun _ => rfl), Nat.le_refl _, by decide⟩
theorem lights_one : Lights [default] := ⟨fun d hd => by
  rw [List.mem_singleton] at hd
  subst hd
  exact ⟨by decide, by decide, by decide, fun s hs => by cases hs⟩, by decide⟩
theorem sum_le3 {L : List (List Nat)} (h : ∀ r ∈ L, r.length ≤ 300) : sumN L ≤ 3 * L.length := by
  induction L with
  | nil => exact Nat.le_refl _
  | cons r rs ih =>
    have h1 := h r (by simp)
    have h2 := ih fun x hx => h x (by simp [hx])
    have h3 : sumN (r :: rs) = blkN r.length + sumN rs := by unfold sumN; rw [List.map_cons, List.sum_cons]
    rw [h3, List.length_cons]
    unfold blkN
    omega
theorem fits20' : FitsD 82 ((40 : Nat) : Int) := ⟨by decide, by decide, by decide⟩

set_option maxRecDepth 100000 in
theorem logAnew_long (T : Option Addr) (n c : Nat) (nn mo : Int) (a : Addr) (w : World) (hs : S21 w a) (hn : 8 < n) :
    Calls Tryd.prog 6 #[.slice T n c, .int .u8 nn, .int .u8 mo] w fun e w' => e = .returned (.bool true) ∧ Later w w' := by
  have HB := Lib.hid (begun21_any a w hs)
  have hd : decide ((8 : Int) < (n : Int)) = true := by simp; omega
  clear hs hn
  go_enter Tryd.func6, Tryd.ntmps6
  go_wp2_with fail
  refine HB.out.mono ?_
  rintro e w1 ⟨rfl, l1⟩
  have HL := Lib.hid l1
  clear l1
  go_wp2_with fail
  go_ret
  exact ⟨rfl, HL.out⟩

set_option maxRecDepth 100000 in
set_option maxHeartbeats 8000000 in
theorem logAnew_walk (T : Option Addr) (n c : Nat) (ss : List SlB) (nn mo : Nat) (a : Addr) (w : World) (hs : S21 w a) (hb : IsBts w T n c ss) (hn8 : n ≤ 8) (hnn : nn < 256) (hmo : mo < 256) :
    Calls Tryd.prog 6 #[.slice T n c, .int .u8 (nn : Int), .int .u8 (mo : Int)] w fun e w' => e = .returned (.bool true) ∧ Later w w' := by
  have HB := Lib.hid (begun21_any a w hs)
  have HS := Lib.hid hs
  have HBT := Lib.hid hb
  have hd : decide ((8 : Int) < (n : Int)) = false := by simp; omega
  obtain ⟨t, ht⟩ : ∃ x, x = nn % 4 := ⟨_, rfl⟩
  have ht3 : t ≤ 3 := by omega
  have e0 : (nn : Int).tmod 4 = (t : Int) := by rw [Int.tmod_eq_emod_of_nonneg (by omega)]; omega
  have e1 : IntKind.u8.wrap (t : Int) = (t : Int) := by simp [IntKind.wrap, IntKind.bits, IntKind.signed]; omega
  have e2 : IntKind.i64.wrap (t : Int) = (t : Int) := IntWalk.i64_in _ ⟨by omega, by omega⟩
  have HMO := Lib.hid hmo
  have HSZ := Lib.hid (fun W => logSize_any 40 W (by omega))
  have HNEW := Lib.hid (fun W => devNew_any 82 W (by decide))
  clear hs hb ht hnn hmo
  go_enter Tryd.func6, Tryd.ntmps6
  go_wp2_with fail
  refine HB.out.mono ?_
  rintro e w1 ⟨rfl, l1⟩
  have HL1 := Lib.hid l1
  obtain ⟨g1, hg1⟩ : ∃ x, w1.heap.size = x := ⟨_, rfl⟩
  obtain ⟨w2, hw2⟩ : ∃ x, w1.alloc (.cells #[.int .i64 0, nilv, nilv, nilv, .int .i64 0, .int .i64 0] 39) = x := ⟨_, rfl⟩
  have l2 : Later w1 w2 := hw2 ▸ Later.new _ _
  have HLT := Lib.hid (light21_any (some ⟨g1, 0, none⟩) 1 1 [default] w2 (isDeeds_one (hw2 ▸ Blk.new w1 _ _ g1 hg1.symm)))
  have HL2 := Lib.hid (l1.trans l2)
  have HG1 := Lib.hid hg1
  have HW2 := Lib.hid hw2
  clear l1 l2 HB hg1 hw2
  go_wp2_with fail
  rw [HG1.out, HW2.out]
  refine HLT.out.mono ?_
  rintro e w2' ⟨b, hb, rfl, rfl⟩
  obtain rfl : b = true := hb.2 lights_one
  clear hb HLT HW2 HG1 HL1
  go_wp2_with fail
  refine (HSZ.out w2').mono ?_
  rintro e w3 ⟨rfl, rfl⟩
  have h82 : (2 : Int) + 2 * ((40 : Nat) : Int) = ((82 : Nat) : Int) := rfl
  rw [h82]
  go_wp2_with fail
  refine (HNEW.out _).mono ?_
  rintro e w4 ⟨p, gs, gn, cs, cn, rfl, hda, l4⟩
  obtain ⟨W1, hW1⟩ : ∃ x, x = w2' := ⟨_, rfl⟩
  rw [← hW1] at hda l4 HL2
  have HSB := Lib.hid ((S21B.of (HS.out.later HL2.out)).later l4)
  have HL4 := Lib.hid l4
  have HO := Lib.hid (logMake_any W1.heap.size p gs gn 82 cs cn none 0 (newD 82) 40 none 0 [] a w4 0 0 hda (by decide) fits20' (DOk.new 82) (by decide) (by decide) l4.size (Nat.zero_le _) (fun q W _ _ _ => ⟨.inl rfl, fun s hs => by cases hs⟩) (fun s hs => by cases hs) (new_ho 82 (by decide)) HSB.out)
  clear hda l4 HNEW HSZ h82
  go_wp2_with fail
  refine HO.out.mono ?_
  rintro e w5 ⟨rfl, hr⟩
  have hfe : fitsE ((40 : Nat) : Int) (List.map (·.l) ([] : List SlB)) = 0 := fitsE_nil _ (by omega)
  rcases hr with ⟨h1, _⟩ | ⟨_, q, now, hq, hlg, hlay⟩
  · exact absurd hfe h1
  rw [hfe]
  have hlay : LayP W1.heap.size p gs gn 82 q 40 1 0 0 (0 + 40 + 0 + 1) now w4 w5 := hlay
  have HB5 := Lib.hid (show Later W1 w5 from (show Below W1.heap.size W1 w4 from HL4.out.below).trans hlay.below)
  have HO := Lib.hid (logOpen_lay W1.heap.size p gs gn 82 q 40 1 0 [] now a w4 w5 0 (0 + 40 + 0 + 1) hlay (by decide) fits20' hlg (by decide) (by decide) (by decide) (by decide) HB5.out.size (fun r hr => by cases hr) HSB.out)
  clear hfe hq hlg hlay
  go_wp2_with fail
  refine HO.out.mono ?_
  rintro e w6 ⟨q1, T1, tc, ss1, now1, rfl, hm, htb, hq1, hlg1, hlay1⟩
  have hlay1 : LayP W1.heap.size p gs gn 82 q1 40 2 0 0 (0 + 40 + 0 + 1 + 40 + 0 + 1) now1 w5 w6 := hlay1
  have HB6 := Lib.hid (show Later W1 w6 from (show Below W1.heap.size W1 w5 from HB5.out.below).trans hlay1.below)
  have HI0 := Lib.hid (AnI.mk (W1 := W1) (N := t + 1) 0 0 q1 _ 0 [] now1 rfl (Nat.zero_le _) hlg1 hlay1.here (by decide) HB6.out (Nat.le_trans HB5.out.size hq1) (Nat.zero_le _))
  clear hm htb hq1 hlg1 hlay1 HO HB5 HL4 HSB
  have HL1 := Lib.hid (HL2.out.trans HB6.out)
  have HNLE := Lib.hid (show ss.length = n from HBT.out.1)
  go_wp2_with fail
  go_loopw [12] (fun kv wx => AnL ss w6 kv wx) (fun kv _ => n - (intOf kv).toNat)
  case atStart => exact AnL.mk 0 0 rfl (Nat.zero_le _) (fun j _ h => absurd h (Nat.not_lt_zero _))
  case round =>
    obtain ⟨k, rfl, hk, rfl, hallk⟩ := hrel
    have HALLK := Lib.hid hallk
    clear hallk
    by_cases hkl : k < n
    · have hks : k < ss.length := by have := HNLE.out; omega
      obtain ⟨b2, o2, rfl, _, hc⟩ := (HBT.out.2.1.later HL1.out).at_ (k := k) (by rw [List.length_map]; exact hks)
      rw [List.getElem_map] at hc
      unfold SlB.v at hc
      obtain ⟨e, he⟩ : ∃ e, e = ss[k] := ⟨_, rfl⟩
      rw [← he] at hc
      have HE := Lib.hid he
      have hel := (HBT.out.2.2.1 _ (List.getElem_mem hks)).2.2.2
      rw [← he] at hel
      clear he
      by_cases h4 : e.l.length ≤ 300
      · have d4 : decide ((300 : Int) < (e.l.length : Int)) = false := by simp; omega
        go_wp2_with fail
        go_roundw
        case rel => exact AnL.mk _ (k + 1) (by go_num) hks (fun j hj hji => by
          by_cases h : j < k
          · exact HALLK.out j hj h
          · have : j = k := by omega
            subst this
            rw [← HE.out]; exact h4)
        case measure => simp [intOf]; omega
      · have d4 : decide ((300 : Int) < (e.l.length : Int)) = true := by simp; omega
        go_wp2_with fail
        go_ret
        exact ⟨rfl, HL1.out⟩
    · have H300 := Lib.hid (show ∀ s ∈ ss, s.l.length ≤ 300 from fun s hs => by
        obtain ⟨m, hm, rfl⟩ := List.mem_iff_getElem.1 hs
        exact HALLK.out m hm (by have := HNLE.out; omega))
      clear HALLK hk
      go_wp2_with fail
      go_loopw [9, 13] (fun xv iv wx => AnI W1 p gs gn 82 (t + 1) xv iv wx) (fun _ iv _ => t + 1 - (intOf iv).toNat)
      case atStart => exact HI0.out
      case round =>
        obtain ⟨i, q, wn, used, recs, now, rfl, rfl, hi, hlg, hlay, hwn, hla, hqb, hus⟩ := hrel
        obtain ⟨wo, hwo⟩ : ∃ x, x = wr := ⟨_, rfl⟩
        subst hwo
        have HLA := Lib.hid hla
        clear HI0
        by_cases hlt : i ≤ t
        · obtain ⟨g, hg⟩ : ∃ x, x = 2 + 2 * i := ⟨_, rfl⟩
          rw [← hg] at hlg hlay
          have hg8 : g ≤ 8 ∧ 2 ≤ g := by omega
          have HGI := Lib.hid hg
          obtain ⟨k, hk⟩ : ∃ x, x = min i n := ⟨_, rfl⟩
          have hkn : k ≤ n := by omega
          obtain ⟨T', c', hsl, hT', hle', hc2, hhas⟩ := slice_bts T n c k hkn HBT.out.2.2.2.2.1 HBT.out.2.2.2.1
          have HK := Lib.hid hk
          have HHAS := Lib.hid hhas
          have HT' := Lib.hid hT'
          have HLAY := Lib.hid hlay
          have HLG := Lib.hid hlg
          obtain ⟨m, hm⟩ : ∃ x, x = n - k := ⟨_, rfl⟩
          rw [← hm] at hsl hle'
          have HM := Lib.hid hm
          have HD := Lib.hid (show (ss.drop k).length = m from by rw [List.length_drop, HNLE.out]; omega)
          have HGEN := Lib.hid (logGen_any q p 40 g used wo hlay.blk)
          have HSW := Lib.hid ((S21B.of (HS.out.later HL2.out)).later HLA.out)
          have HLW := Lib.hid (HL2.out.trans HLA.out)
          have HAN := Lib.hid (logAnew_lay W1.heap.size p gs gn 82 q 40 g used recs now T' m c' (ss.drop k) a wo wo 0 wn HLAY.out (by decide) fits20' hlg (by omega) (by omega) (by decide) (by omega) hqb HD.out.symm (by have := HD.out; omega)
            (fun W hkl hbl => by
              have hl : Later w W := HL2.out.trans (show Later W1 W from (show Below W1.heap.size W1 wo from HLA.out.below).trans hbl)
              refine ⟨?_, fun s hs => ((HBT.out.2.2.1 s (List.mem_of_mem_drop hs)).later hl).2.1⟩
              rw [List.map_drop]
              exact HHAS.out W _ (by rw [List.length_map]; exact HNLE.out) (HBT.out.2.1.later hl))
            (fun s hs => by
              have h1 := H300.out s (List.mem_of_mem_drop hs)
              have h2 := HBT.out.2.2.1 s (List.mem_of_mem_drop hs)
              exact ⟨by omega, h2.1, h2.2.2.1⟩) HSW.out)
          have hfe : fitsE ((40 : Nat) : Int) ((ss.drop k).map (·.l)) = 0 := by
            have h3 : sumN ((ss.drop k).map (·.l)) ≤ 3 * ((ss.drop k).map (·.l)).length := sum_le3 fun r hr => by
              obtain ⟨s, hs, rfl⟩ := List.mem_map.1 hr
              exact H300.out s (List.mem_of_mem_drop hs)
            rw [List.length_map, HD.out] at h3
            unfold fitsE
            rw [if_pos (by
              rw [List.all_eq_true]
              intro r hr
              obtain ⟨s, hs, rfl⟩ := List.mem_map.1 hr
              exact decide_eq_true (by have := H300.out s (List.mem_of_mem_drop hs); omega)), if_neg (by omega)]
          have HFE := Lib.hid hfe
          have d1 : decide ((i : Int) ≤ (t : Int)) = true := by simp; omega
          clear hg hk hhas hT' hlay hlg hfe hm hla hle' hc2
          go_upto_region 19 with fail
          go_cut [14] from 73 to 76 (fun v wx => v = .int .i64 (k : Int) ∧ wx = wo)
          case first =>
            have HKK := HK.out
            go_wp2_with fail
            all_goals go_meet
            all_goals exact ⟨by first | rfl | (congr 1; omega), rfl⟩
          case rest =>
          obtain ⟨rfl, rfl⟩ := hcut
          go_wp2_with fail
          refine HGEN.out.mono ?_
          rintro e wc' ⟨rfl, rfl⟩
          clear HGEN
          go_wp2_with fail
          refine HAN.out.mono ?_
          rintro e w9 ⟨rfl, hr⟩
          rcases hr with ⟨h1, _⟩ | ⟨_, now2, hlg2, hlay2⟩
          · exact absurd HFE.out h1
          rw [HFE.out]
          obtain ⟨u, hu⟩ : ∃ x, x = sumN ((ss.drop k).map (·.l)) := ⟨_, rfl⟩
          rw [← hu] at hlay2
          have hu24 : u ≤ 24 := by
            rw [hu]
            have h3 : sumN ((ss.drop k).map (·.l)) ≤ 3 * ((ss.drop k).map (·.l)).length := sum_le3 fun r hr => by
              obtain ⟨s, hs, rfl⟩ := List.mem_map.1 hr
              exact H300.out s (List.mem_of_mem_drop hs)
            rw [List.length_map, HD.out] at h3
            have := HM.out
            omega
          have HU := Lib.hid hu
          have HLG2 := Lib.hid hlg2
          have HLAY2 := Lib.hid hlay2.here
          have HL9 := Lib.hid (show Later W1 w9 from (show Below W1.heap.size W1 _ from HLA.out.below).trans hlay2.below)
          have HGEN := Lib.hid (logGen_any q p 40 (g + 1) u w9 hlay2.blk)
          have hw1 : IntKind.u32.wrap ((g : Int) + 1) = ((g + 1 : Nat) : Int) := by simp [IntKind.wrap, IntKind.bits, IntKind.signed]; omega
          have hw2 : IntKind.u32.wrap ((g : Int) + 2) = ((g + 2 : Nat) : Int) := by simp [IntKind.wrap, IntKind.bits, IntKind.signed]; omega
          clear hu hlg2 hlay2 HAN HLAY HLG HFE
          go_wp2_with fail
          refine HGEN.out.mono ?_
          rintro e w9' ⟨rfl, rfl⟩
          clear HGEN
          obtain ⟨gm, hgm⟩ : ∃ x, w9.heap.size = x := ⟨_, rfl⟩
          obtain ⟨w10, hw10⟩ : ∃ x, w9.alloc (.cells #[.int .u8 (mo : Int)] 5) = x := ⟨_, rfl⟩
          have l10 : Later w9 w10 := hw10 ▸ Later.new _ _
          have hbm : Blk w10 gm [Value.int .u8 (mo : Int)].toArray 5 := hw10 ▸ Blk.new w9 _ _ gm hgm.symm
          have hmoB : ∀ x ∈ [mo], x < 256 := fun x hx => by rw [List.mem_singleton] at hx; subst hx; exact HMO.out
          have HL10 := Lib.hid (HL9.out.trans l10)
          have HLAY3 := Lib.hid (HLAY2.out.later l10 hqb).here
          have HAPP := Lib.hid (logAppend_any W1.heap.size p gs gn 82 q 40 (g + 1) u 0 _ now2 ((ss.drop k).map (·.l)) (some ⟨gm, 0, none⟩) 1 [mo] a w10 w10 HLAY3.out (by decide) fits20' (by omega) (by decide) (by omega) hqb HLG2.out HU.out (blk_hasL hbm) (fun h => by cases h) (by simp) hmoB ((S21B.of (HS.out.later HL2.out)).later HL10.out))
          have HGM := Lib.hid hgm
          have HW10 := Lib.hid hw10
          clear hgm hw10 hbm hmoB l10 HLAY2
          go_wp2_with fail
          rw [HGM.out, HW10.out]
          refine HAPP.out.mono ?_
          rintro e w11 ⟨rfl, hr⟩
          have hb1 : blkN ([mo] : List Nat).length = 1 := by show blkN 1 = 1; decide
          have hz : fitsE (((40 : Nat) : Int) - (u : Int)) [[mo]] = 0 := by
            rw [fitsE_one (by simp), hb1, if_neg (by omega)]
          rcases hr with ⟨h1, _⟩ | ⟨_, now3, hlg3, hlay3⟩
          · exact absurd hz h1
          rw [hz]
          rw [hb1] at hlay3
          have HLG3 := Lib.hid hlg3
          have HLAY4 := Lib.hid hlay3.here
          have HL11 := Lib.hid (show Later W1 w11 from (show Below W1.heap.size W1 w10 from HL10.out.below).trans hlay3.below)
          have HO := Lib.hid (logOpen_lay W1.heap.size p gs gn 82 q 40 (g + 1) (u + 1) _ now3 a w11 w11 0 _ HLAY4.out (by decide) fits20' hlg3 (by omega) (by omega) (by decide) (by omega) HL11.out.size (fun r hr => by
            rcases List.mem_append.1 hr with h | h
            · obtain ⟨s, hs, rfl⟩ := List.mem_map.1 h
              have h1 := H300.out s (List.mem_of_mem_drop hs)
              exact ⟨by omega, (HBT.out.2.2.1 s (List.mem_of_mem_drop hs)).1⟩
            · rw [List.mem_singleton] at h; subst h
              exact ⟨by simp, fun x hx => by rw [List.mem_singleton] at hx; subst hx; exact HMO.out⟩) ((S21B.of (HS.out.later HL2.out)).later HL11.out))
          clear hlg3 hlay3 hz hb1 HAPP HGM HW10 HLAY3
          go_wp2_with fail
          refine HO.out.mono ?_
          rintro e w12 ⟨q2, T2, tc2, ss2, now4, rfl, hm2, htb2, hq2, hlg4, hlay4⟩
          have hsn : sumN ((ss.drop k).map (·.l) ++ [[mo]]) = u + 1 := by
            rw [sumN_snoc, ← HU.out]
            have : blkN ([mo] : List Nat).length = 1 := by show blkN 1 = 1; decide
            rw [this]
          rw [hsn] at hlay4
          have HT12 := Lib.hid htb2
          have HM2 := Lib.hid hm2
          have HLG5 := Lib.hid hlg4
          have HLAY5 := Lib.hid hlay4.here
          have HL12 := Lib.hid (show Later W1 w12 from (show Below W1.heap.size W1 w11 from HL11.out.below).trans hlay4.below)
          have HQ2 := Lib.hid (show W1.heap.size ≤ q2 from Nat.le_trans HL11.out.size hq2)
          have HGEN := Lib.hid (logGen_any q2 p 40 (g + 2) (u + 1) w12 hlay4.blk)
          have HOE := Lib.hid (own_emptyL w12 w12.heap.size 24 1 (Nat.le_refl _))
          have l13 : Later w12 (w12.alloc (.cells #[] 24)) := Later.new _ _
          have HL13 := Lib.hid l13
          have HPW := Lib.hid (HL2.out.trans HL12.out)
          have HXS := Lib.hid (HHAS.out (w12.alloc (.cells #[] 24)) _ (by rw [List.length_map]; exact HNLE.out) (HBT.out.2.1.later (HPW.out.trans l13)))
          have HXL := Lib.hid (show (List.drop k (ss.map SlB.v)).length = m * 1 from by rw [List.length_drop, List.length_map, HNLE.out, HM.out]; omega)
          have HX1 := Lib.hid (show ∀ u ∈ List.drop k (ss.map SlB.v), u.oneCell' = true from fun u hu => by
            obtain ⟨s, _, rfl⟩ := List.mem_map.1 (List.mem_of_mem_drop hu)
            rfl)
          have hm8 : m ≤ 8 := by have := HM.out; omega
          clear hm2 htb2 hq2 hlg4 hlay4 hsn l13 HO HLAY4 HLG3 HLG2
          go_wp2_with fail
          refine HGEN.out.mono ?_
          rintro e w12' ⟨rfl, rfl⟩
          clear HGEN
          go_wp2_with (first
            | (at_builtin; (refine wpList_unguard (by rfl) ?_; refine wpList_append_g _ rfl (.tmp 120) (.tmp 123) 33 rfl w12.heap.size 24 _ 1 24 Tryd.underlying33 info_bs rfl (by decide) _ 0 _ rfl HOE.out T' m c' (List.drop k (ss.map SlB.v)) rfl HXS.out HXL.out HT'.out HX1.out (by unfold maxLen; omega) (by omega) (by simp) ?_); rintro A1 c1 w14 hO hgr hbel hn2; simp only [Nat.zero_add, List.nil_append] at hO; have HO1 := Lib.hid hO; have HL14 := Lib.hid (Later.of (HL13.out.below.trans hbel)); have HOB2 := Lib.hid (fun (o1 o2 : Obj) => own_later (own_later HO1.out (Later.new w14 o1)) (Later.new (w14.alloc o1) o2)); have HBK2 := Lib.hid (fun (o1 : Obj) => Blk.new (w14.alloc o1) #[.slice (some ⟨w14.heap.size, 0, none⟩) 1 1] 24 (w14.heap.size + 1) (by simp)); have HZ14 := Lib.hid HL14.out.size; clear hO hn2 hbel hgr)
            | (at_builtin; go_loud (refine wpList_unguard (by rfl) ?_; refine wpList_append_g _ rfl (.tmp 124) (.tmp 127) 33 rfl w12.heap.size 24 _ 1 24 Tryd.underlying33 info_bs rfl (by decide) _ m _ rfl (HOB2.out _ _) _ 1 1 [.slice (some ⟨w14.heap.size, 0, none⟩) 1 1] rfl (blk_hasL (HBK2.out _)) rfl (by intro h; cases h) (by intro u hu; rw [List.mem_singleton] at hu; subst hu; rfl) (by unfold maxLen; omega) (by omega) (by have := HZ14.out; simp; omega) ?_); rintro A3 c3 wq hO hgr hbel hn2; have HO3 := Lib.hid hO; have HBEL := Lib.hid hbel; have HGR := Lib.hid hgr; clear hO hn2 hbel hgr))
          have HLQ := Lib.hid (show Later w12 wq from (show Below w12.heap.size w12 _ from ((HL14.out.alloc (.cells #[.int .u8 (mo : Int)] 5)).alloc (.cells #[.slice (some ⟨w14.heap.size, 0, none⟩) 1 1] 24)).below).trans HBEL.out)
          have hbm : Blk wq w14.heap.size [Value.int .u8 (mo : Int)].toArray 5 := by
            have h1 : Blk (w14.alloc (.cells #[.int .u8 (mo : Int)] 5)) w14.heap.size [Value.int .u8 (mo : Int)].toArray 5 := Blk.new w14 _ _ _ rfl
            refine Blk.grownBy (h1.later (Later.new _ (.cells #[.slice (some ⟨w14.heap.size, 0, none⟩) 1 1] 24))) HGR.out fun x hx => ?_
            obtain ⟨c, hc⟩ := devblk_v (HOB2.out (.cells #[.int .u8 (mo : Int)] 5) (.cells #[.slice (some ⟨w14.heap.size, 0, none⟩) 1 1] 24)) x hx
            exact ⟨c, _, hc, by decide⟩
          have HLE := Lib.hid (HPW.out.trans HLQ.out)
          have htab : Has wq A3 ((ss.drop k ++ [(⟨some ⟨w14.heap.size, 0, none⟩, 1, [mo]⟩ : SlB)]).map SlB.v) := by
            have h := Has.own HO3.out
            rw [List.map_append, List.map_drop]
            exact h
          have HSM := Lib.hid (logSame_any T2 A3 ss2.length (m + 1) tc2 c3 ss2 (ss.drop k ++ [⟨some ⟨w14.heap.size, 0, none⟩, 1, [mo]⟩]) wq rfl (by rw [List.length_append, HD.out]; rfl) (by have := congrArg List.length HM2.out; rw [List.length_map, List.length_append, List.length_map, HD.out] at this; simp at this; omega) (HT12.out.has.1.later HLQ.out) htab
            (fun s hs => ⟨(HT12.out.has.2 s hs).later HLQ.out, by
              have : s.l ∈ ss2.map (·.l) := List.mem_map_of_mem hs
              rw [HM2.out] at this
              rcases List.mem_append.1 this with h | h
              · obtain ⟨s', hs', he⟩ := List.mem_map.1 h
                rw [← he]
                exact (HBT.out.2.2.1 s' (List.mem_of_mem_drop hs')).1
              · rw [List.mem_singleton] at h; rw [h]
                exact fun x hx => by rw [List.mem_singleton] at hx; subst hx; exact HMO.out⟩)
            (fun s hs => by
              rcases List.mem_append.1 hs with h | h
              · have h1 := HBT.out.2.2.1 s (List.mem_of_mem_drop h)
                exact ⟨(h1.later HLE.out).2.1, h1.1⟩
              · rw [List.mem_singleton] at h; subst h
                exact ⟨blk_hasL hbm, fun x hx => by rw [List.mem_singleton] at hx; subst hx; exact HMO.out⟩))
          have HLAY6 := Lib.hid (HLAY5.out.later HLQ.out HQ2.out).here
          have HLX := Lib.hid (HL12.out.trans HLQ.out)
          have HWN := Lib.hid hwn
          have HSAM := Lib.hid (show ss2.map (·.l) = (ss.drop k ++ [(⟨some ⟨w14.heap.size, 0, none⟩, 1, [mo]⟩ : SlB)]).map (·.l) from by rw [HM2.out, List.map_append]; rfl)
          clear hbm htab HO3 HBEL HGR HOB2 HBK2 HO1 HL14 HL13 HOE HXS HXL HX1
          go_wp2_with fail
          refine HSM.out.mono ?_
          rintro e w15 ⟨b, hb, rfl, l15⟩
          obtain rfl : b = true := hb.2 HSAM.out
          have HLAY7 := Lib.hid (HLAY6.out.later l15 HQ2.out).here
          have HLX2 := Lib.hid (HLX.out.trans l15)
          clear hb l15 HSM HSAM HLAY6 HLX
          go_wp2_with fail
          go_roundw
          case rel =>
            have hgi := HGI.out
            have e : g + 1 + 1 = 2 + 2 * (i + 1) := by omega
            have h5 := HLG5.out
            have h7 := HLAY7.out
            rw [e] at h5 h7
            exact AnI.mk _ (i + 1) q2 _ _ _ _ (by go_num) (by omega) h5 h7 (by omega) HLX2.out HQ2.out (by omega)
          case measure => simp [intOf]; omega
        · have d1 : decide ((i : Int) ≤ (t : Int)) = false := by simp; omega
          have HEND := Lib.hid (HL2.out.trans HLA.out)
          clear hlg hlay hla
          go_wp2_with fail
          go_ret
          exact ⟨rfl, HEND.out⟩
end Go.Proofs.YtfplppldojlanaaDoor
