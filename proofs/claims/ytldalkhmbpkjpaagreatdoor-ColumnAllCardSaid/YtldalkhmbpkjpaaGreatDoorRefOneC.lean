
import Derived.Test.YtldalkhmbpkjpaaGreatDoorRefL
/- The walk of the reference's takeOne: of numbers. -/

namespace Go.Proofs.YtldalkhmbpkjpaaGreatDoor
open Go.RowKit
set_option linter.unusedVariables false

set_option maxRecDepth 100000 in
set_option maxHeartbeats 2000000 in
theorem takeOne_num2 (A : Option Addr) (c : Nat) (b : List Nat) (w : World) (hpos : 0 < b.length) (hr : Has w A (ints .u8 b)) (h256 : ∀ x ∈ b, x < 256) (hb : b.length ≤ 1000000) (hbc : b.length ≤ c) :
    Calls Tryz.prog 65 #[.int .i64 2, .slice A b.length c] w (TakesO (takeC 2 b) 2 w) := by
  have HRC := Lib.hid (readC_num (t := 2) (b := b) (by omega))
  have HYES := Lib.hid (fun i s n => takeC_may (t := 2) (b := b) (i := i) (s := s) (n := n))
  have HNOT := Lib.hid (fun i s n => takeC_not (t := 2) (b := b) (i := i) (s := s) (n := n))
  have HNONE := Lib.hid (takeC_none (t := 2) (b := b))
  obtain ⟨o, ho⟩ : ∃ o, o = takeC 2 b := ⟨_, rfl⟩
  rw [← ho] at HYES HNOT HNONE ⊢
  obtain ⟨w1, hw1, L1, R1, V1, z1⟩ := two_new w #[.int .i64 0, .int .i64 0, .string ⟨#[]⟩] #[.int .i64 2, .int .i64 0, .string ⟨#[]⟩] 26 26
  have HT := Lib.hid (refTake_num A b.length c b w1 rfl hbc (hr.later L1) h256 hb)
  have HL := Lib.hid L1
  have HW := Lib.hid hw1
  have HU := Lib.hid (fun u n (h : takeNum b = some (u, n)) => (takeNum_is h256 h).1)
  obtain ⟨g, hg⟩ : ∃ g, g = w.heap.size := ⟨_, rfl⟩
  obtain ⟨g1, hg1⟩ : ∃ g1, g1 = w.heap.size + 1 := ⟨_, rfl⟩
  have HG := Lib.hid hg
  have HG1 := Lib.hid hg1
  have hl0 : ((b.length : Int) == 0) = false := by rw [beq_eq_false_iff_ne]; omega
  rw [← hg1] at V1
  rw [← hg] at R1
  clear hr hw1 L1 z1 h256 ho hpos
  go_enter Tryz.func65, Tryz.ntmps65
  go_wp2_with fail
  rw [← HW.out]
  refine HT.out.mono ?_
  rintro e w2 ⟨u, n, ok, hT0, rfl, b2⟩
  have l2 : Later w1 w2 := Later.of b2
  have V2 := V1.later l2
  have R2 := R1.later l2
  have HL2 := Lib.hid (HL.out.trans l2)
  rw [← HG1.out, ← HG.out]
  clear hg hg1 HT HL V1 R1 HW b2 l2
  rcases takeR_some hT0 with ⟨rfl, hT⟩ | ⟨rfl, hT⟩
  · have HRD := Lib.hid (HRC.out.trans (by rw [hT]))
    have hu := HU.out u n hT
    have d0 := V2.cell 0 _ rfl
    have d1 := V2.cell 1 _ rfl
    have d2 := V2.cell 2 _ rfl
    have f1 := V2.frozen 1
    have V3 := V2.set_ 1 (.int .i64 (zag u))
    have R3 := R2.far (p := ⟨g1, 1, none⟩) (show g ≠ g1 by have := HG.out; have := HG1.out; omega) (.int .i64 (zag u))
    have L3 := Lib.hid (HL2.out.set_ (p := ⟨g1, 1, none⟩) (show w.heap.size ≤ g1 by have := HG1.out; omega) (.int .i64 (zag u)))
    clear hT hT0 HU
    go_wp2_with (go_at_call 69; refine (refZag_any u _ hu).mono ?_; rintro e w' ⟨rfl, rfl⟩)
    obtain ⟨w3, hw3⟩ : ∃ w3, w3 = w2.setCell ⟨g1, 1, none⟩ (.int .i64 (zag u)) := ⟨_, rfl⟩
    rw [← hw3] at V3 R3 L3 ⊢
    have V3 : Blk w3 g1 #[.int .i64 2, .int .i64 (zag u), .string ⟨#[]⟩] 26 := V3
    clear d0 d1 d2 f1 hw3 V2 R2 HL2
    by_cases hm : MayV 2 (zag u) (⟨#[]⟩ : ByteArray).size
    · have HO := Lib.hid (HYES.out _ _ _ HRD.out hm)
      have HM := Lib.hid hm
      clear hm
      have VV := V3
      have RR := R3
      have v0 := V3.cell 0 _ rfl
      have v1 := V3.cell 1 _ rfl
      have v2 := V3.cell 2 _ rfl
      first
       | go_region_law (first
          | (go_simp; go_at_call 31; refine (refMay_any 2 (zag u) ⟨#[]⟩ _).mono ?_; intro e w4 h; obtain ⟨rfl, l4⟩ := TellsP.yes HM.out (SaysP.tells h); have V4 := VV.drew.later l4; have R4 := RR.drew.later l4; have u0 := V4.cell 0 _ rfl; have u1 := V4.cell 1 _ rfl; have u2 := V4.cell 2 _ rfl; have r0 := R4.cell 0 _ rfl; have r1 := R4.cell 1 _ rfl; have r2 := R4.cell 2 _ rfl; have f0 := R4.frozen 0; have f1 := R4.frozen 1; have f2 := R4.frozen 2; have L4 := Lib.hid (L3.out.drew.trans l4); clear l4)
          | (go_simp; go_at_call 16; refine (isType_any 2 _).mono ?_; intro e w5 h; obtain ⟨rfl, l5⟩ := TellsP.yes (by decide) (SaysP.tells h); have V5 := V4.later l5; have R5 := R4.later l5; have y0 := V5.cell 0 _ rfl; have y1 := V5.cell 1 _ rfl; have y2 := V5.cell 2 _ rfl; have s0 := R5.cell 0 _ rfl; have s1 := R5.cell 1 _ rfl; have s2 := R5.cell 2 _ rfl; have k0 := R5.frozen 0; have k1 := R5.frozen 1; have k2 := R5.frozen 2; have L5 := Lib.hid (L4.out.trans l5); clear l5))
       | fail "no walk"
      all_goals go_wp2_with fail
      all_goals
        have R9 := three_blk R5 rfl (.int .i64 2) (.int .i64 (zag u)) (.string ⟨#[]⟩)
        have L9 := three_later L5.out (show w.heap.size ≤ g by have := HG.out; omega) (.int .i64 2) (.int .i64 (zag u)) (.string ⟨#[]⟩)
        obtain ⟨w9, hw9⟩ : ∃ w9, w9 = (((w5.setCell ⟨g, 0, none⟩ (.int .i64 2)).setCell ⟨g, 1, none⟩ (.int .i64 (zag u))).setCell ⟨g, 2, none⟩ (.string ⟨#[]⟩)) := ⟨_, rfl⟩
        rw [← hw9] at R9 L9 ⊢
        have x0 := R9.cell 0 _ rfl
        have x1 := R9.cell 1 _ rfl
        have x2 := R9.cell 2 _ rfl
        refine bodyPost_ret (v := .tuple #[vagg 2 (zag u) ⟨#[]⟩, .int .i64 n, .bool true]) (by simp [results, Tryz.results65, go_sem, x0, x1, x2]) rfl ?_
        rw [← bstr_nil]; exact TakesO.yes HO.out L9
    · have HO := Lib.hid (HNOT.out _ _ _ HRD.out hm)
      have HM := Lib.hid hm
      clear hm
      have VV := V3
      have RR := R3
      have v0 := V3.cell 0 _ rfl
      have v1 := V3.cell 1 _ rfl
      have v2 := V3.cell 2 _ rfl
      first
       | go_region_law (first
          | (go_simp; go_at_call 31; refine (refMay_any 2 (zag u) ⟨#[]⟩ _).mono ?_; intro e w4 h; obtain ⟨rfl, l4⟩ := TellsP.no HM.out (SaysP.tells h); have V4 := VV.drew.later l4; have R4 := RR.drew.later l4; have u0 := V4.cell 0 _ rfl; have u1 := V4.cell 1 _ rfl; have u2 := V4.cell 2 _ rfl; have r0 := R4.cell 0 _ rfl; have r1 := R4.cell 1 _ rfl; have r2 := R4.cell 2 _ rfl; have f0 := R4.frozen 0; have f1 := R4.frozen 1; have f2 := R4.frozen 2; have L4 := Lib.hid (L3.out.drew.trans l4); clear l4)
          | (go_simp; go_at_call 16; refine (isType_any 2 _).mono ?_; intro e w5 h; obtain ⟨rfl, l5⟩ := TellsP.yes (by decide) (SaysP.tells h); have V5 := V4.later l5; have R5 := R4.later l5; have y0 := V5.cell 0 _ rfl; have y1 := V5.cell 1 _ rfl; have y2 := V5.cell 2 _ rfl; have s0 := R5.cell 0 _ rfl; have s1 := R5.cell 1 _ rfl; have s2 := R5.cell 2 _ rfl; have k0 := R5.frozen 0; have k1 := R5.frozen 1; have k2 := R5.frozen 2; have L5 := Lib.hid (L4.out.trans l5); clear l5))
       | fail "no walk"
      all_goals go_wp2_with fail
      all_goals
        have R9 := three_blk R4 rfl (.int .i64 2) (.int .i64 (zag u)) (.string ⟨#[]⟩)
        have L9 := three_later L4.out (show w.heap.size ≤ g by have := HG.out; omega) (.int .i64 2) (.int .i64 (zag u)) (.string ⟨#[]⟩)
        obtain ⟨w9, hw9⟩ : ∃ w9, w9 = (((w4.setCell ⟨g, 0, none⟩ (.int .i64 2)).setCell ⟨g, 1, none⟩ (.int .i64 (zag u))).setCell ⟨g, 2, none⟩ (.string ⟨#[]⟩)) := ⟨_, rfl⟩
        rw [← hw9] at R9 L9 ⊢
        have x0 := R9.cell 0 _ rfl
        have x1 := R9.cell 1 _ rfl
        have x2 := R9.cell 2 _ rfl
        refine bodyPost_ret (v := .tuple #[vagg 2 (zag u) ⟨#[]⟩, .int .i64 n, .bool false]) (by simp [results, Tryz.results65, go_sem, x0, x1, x2]) rfl ?_
        exact TakesO.no HO.out _ _ _ _ L9
  · have HO := Lib.hid (HNONE.out (HRC.out.trans (by rw [hT])))
    have r0 := R2.cell 0 _ rfl
    have r1 := R2.cell 1 _ rfl
    have r2 := R2.cell 2 _ rfl
    have f0 := R2.frozen 0
    have f1 := R2.frozen 1
    have f2 := R2.frozen 2
    clear hT hT0 HU
    go_wp2_with fail
    have R9 := three_blk R2 rfl (.int .i64 0) (.int .i64 0) (.string ⟨#[]⟩)
    have L9 := three_later HL2.out (show w.heap.size ≤ g by have := HG.out; omega) (.int .i64 0) (.int .i64 0) (.string ⟨#[]⟩)
    obtain ⟨w9, hw9⟩ : ∃ w9, w9 = (((w2.setCell ⟨g, 0, none⟩ (.int .i64 0)).setCell ⟨g, 1, none⟩ (.int .i64 0)).setCell ⟨g, 2, none⟩ (.string ⟨#[]⟩)) := ⟨_, rfl⟩
    rw [← hw9] at R9 L9 ⊢
    have x0 := R9.cell 0 _ rfl
    have x1 := R9.cell 1 _ rfl
    have x2 := R9.cell 2 _ rfl
    refine bodyPost_ret (v := .tuple #[vagg 0 0 ⟨#[]⟩, .int .i64 0, .bool false]) (by simp [results, Tryz.results65, go_sem, x0, x1, x2]) rfl ?_
    exact TakesO.no HO.out _ _ _ _ L9
end Go.Proofs.YtldalkhmbpkjpaaGreatDoor

/- The walk of the reference's takeOne: of numbers of few bits. -/

namespace Go.Proofs.YtldalkhmbpkjpaaGreatDoor
open Go.RowKit
set_option linter.unusedVariables false

set_option maxRecDepth 100000 in
set_option maxHeartbeats 2000000 in
theorem takeOne_num1 (A : Option Addr) (c : Nat) (b : List Nat) (w : World) (hpos : 0 < b.length) (hr : Has w A (ints .u8 b)) (h256 : ∀ x ∈ b, x < 256) (hb : b.length ≤ 1000000) (hbc : b.length ≤ c) :
    Calls Tryz.prog 65 #[.int .i64 1, .slice A b.length c] w (TakesO (takeC 1 b) 1 w) := by
  have HRC := Lib.hid (readC_num (t := 1) (b := b) (by omega))
  have HYES := Lib.hid (fun i s n => takeC_may (t := 1) (b := b) (i := i) (s := s) (n := n))
  have HNOT := Lib.hid (fun i s n => takeC_not (t := 1) (b := b) (i := i) (s := s) (n := n))
  have HNONE := Lib.hid (takeC_none (t := 1) (b := b))
  obtain ⟨o, ho⟩ : ∃ o, o = takeC 1 b := ⟨_, rfl⟩
  rw [← ho] at HYES HNOT HNONE ⊢
  obtain ⟨w1, hw1, L1, R1, V1, z1⟩ := two_new w #[.int .i64 0, .int .i64 0, .string ⟨#[]⟩] #[.int .i64 1, .int .i64 0, .string ⟨#[]⟩] 26 26
  have HT := Lib.hid (refTake_num A b.length c b w1 rfl hbc (hr.later L1) h256 hb)
  have HL := Lib.hid L1
  have HW := Lib.hid hw1
  have HU := Lib.hid (fun u n (h : takeNum b = some (u, n)) => (takeNum_is h256 h).1)
  obtain ⟨g, hg⟩ : ∃ g, g = w.heap.size := ⟨_, rfl⟩
  obtain ⟨g1, hg1⟩ : ∃ g1, g1 = w.heap.size + 1 := ⟨_, rfl⟩
  have HG := Lib.hid hg
  have HG1 := Lib.hid hg1
  have hl0 : ((b.length : Int) == 0) = false := by rw [beq_eq_false_iff_ne]; omega
  rw [← hg1] at V1
  rw [← hg] at R1
  clear hr hw1 L1 z1 h256 ho hpos
  go_enter Tryz.func65, Tryz.ntmps65
  go_wp2_with fail
  rw [← HW.out]
  refine HT.out.mono ?_
  rintro e w2 ⟨u, n, ok, hT0, rfl, b2⟩
  have l2 : Later w1 w2 := Later.of b2
  have V2 := V1.later l2
  have R2 := R1.later l2
  have HL2 := Lib.hid (HL.out.trans l2)
  rw [← HG1.out, ← HG.out]
  clear hg hg1 HT HL V1 R1 HW b2 l2
  rcases takeR_some hT0 with ⟨rfl, hT⟩ | ⟨rfl, hT⟩
  · have HRD := Lib.hid (HRC.out.trans (by rw [hT]))
    have hu := HU.out u n hT
    have d0 := V2.cell 0 _ rfl
    have d1 := V2.cell 1 _ rfl
    have d2 := V2.cell 2 _ rfl
    have f1 := V2.frozen 1
    have V3 := V2.set_ 1 (.int .i64 (zag u))
    have R3 := R2.far (p := ⟨g1, 1, none⟩) (show g ≠ g1 by have := HG.out; have := HG1.out; omega) (.int .i64 (zag u))
    have L3 := Lib.hid (HL2.out.set_ (p := ⟨g1, 1, none⟩) (show w.heap.size ≤ g1 by have := HG1.out; omega) (.int .i64 (zag u)))
    clear hT hT0 HU
    go_wp2_with (go_at_call 69; refine (refZag_any u _ hu).mono ?_; rintro e w' ⟨rfl, rfl⟩)
    obtain ⟨w3, hw3⟩ : ∃ w3, w3 = w2.setCell ⟨g1, 1, none⟩ (.int .i64 (zag u)) := ⟨_, rfl⟩
    rw [← hw3] at V3 R3 L3 ⊢
    have V3 : Blk w3 g1 #[.int .i64 1, .int .i64 (zag u), .string ⟨#[]⟩] 26 := V3
    clear d0 d1 d2 f1 hw3 V2 R2 HL2
    by_cases hm : MayV 1 (zag u) (⟨#[]⟩ : ByteArray).size
    · have HO := Lib.hid (HYES.out _ _ _ HRD.out hm)
      have HM := Lib.hid hm
      clear hm
      have VV := V3
      have RR := R3
      have v0 := V3.cell 0 _ rfl
      have v1 := V3.cell 1 _ rfl
      have v2 := V3.cell 2 _ rfl
      first
       | go_region_law (first
          | (go_simp; go_at_call 31; refine (refMay_any 1 (zag u) ⟨#[]⟩ _).mono ?_; intro e w4 h; obtain ⟨rfl, l4⟩ := TellsP.yes HM.out (SaysP.tells h); have V4 := VV.drew.later l4; have R4 := RR.drew.later l4; have u0 := V4.cell 0 _ rfl; have u1 := V4.cell 1 _ rfl; have u2 := V4.cell 2 _ rfl; have r0 := R4.cell 0 _ rfl; have r1 := R4.cell 1 _ rfl; have r2 := R4.cell 2 _ rfl; have f0 := R4.frozen 0; have f1 := R4.frozen 1; have f2 := R4.frozen 2; have L4 := Lib.hid (L3.out.drew.trans l4); clear l4)
          | (go_simp; go_at_call 16; refine (isType_any 1 _).mono ?_; intro e w5 h; obtain ⟨rfl, l5⟩ := TellsP.yes (by decide) (SaysP.tells h); have V5 := V4.later l5; have R5 := R4.later l5; have y0 := V5.cell 0 _ rfl; have y1 := V5.cell 1 _ rfl; have y2 := V5.cell 2 _ rfl; have s0 := R5.cell 0 _ rfl; have s1 := R5.cell 1 _ rfl; have s2 := R5.cell 2 _ rfl; have k0 := R5.frozen 0; have k1 := R5.frozen 1; have k2 := R5.frozen 2; have L5 := Lib.hid (L4.out.trans l5); clear l5))
       | fail "no walk"
      all_goals go_wp2_with fail
      all_goals
        have R9 := three_blk R5 rfl (.int .i64 1) (.int .i64 (zag u)) (.string ⟨#[]⟩)
        have L9 := three_later L5.out (show w.heap.size ≤ g by have := HG.out; omega) (.int .i64 1) (.int .i64 (zag u)) (.string ⟨#[]⟩)
        obtain ⟨w9, hw9⟩ : ∃ w9, w9 = (((w5.setCell ⟨g, 0, none⟩ (.int .i64 1)).setCell ⟨g, 1, none⟩ (.int .i64 (zag u))).setCell ⟨g, 2, none⟩ (.string ⟨#[]⟩)) := ⟨_, rfl⟩
        rw [← hw9] at R9 L9 ⊢
        have x0 := R9.cell 0 _ rfl
        have x1 := R9.cell 1 _ rfl
        have x2 := R9.cell 2 _ rfl
        refine bodyPost_ret (v := .tuple #[vagg 1 (zag u) ⟨#[]⟩, .int .i64 n, .bool true]) (by simp [results, Tryz.results65, go_sem, x0, x1, x2]) rfl ?_
        rw [← bstr_nil]; exact TakesO.yes HO.out L9
    · have HO := Lib.hid (HNOT.out _ _ _ HRD.out hm)
      have HM := Lib.hid hm
      clear hm
      have VV := V3
      have RR := R3
      have v0 := V3.cell 0 _ rfl
      have v1 := V3.cell 1 _ rfl
      have v2 := V3.cell 2 _ rfl
      first
       | go_region_law (first
          | (go_simp; go_at_call 31; refine (refMay_any 1 (zag u) ⟨#[]⟩ _).mono ?_; intro e w4 h; obtain ⟨rfl, l4⟩ := TellsP.no HM.out (SaysP.tells h); have V4 := VV.drew.later l4; have R4 := RR.drew.later l4; have u0 := V4.cell 0 _ rfl; have u1 := V4.cell 1 _ rfl; have u2 := V4.cell 2 _ rfl; have r0 := R4.cell 0 _ rfl; have r1 := R4.cell 1 _ rfl; have r2 := R4.cell 2 _ rfl; have f0 := R4.frozen 0; have f1 := R4.frozen 1; have f2 := R4.frozen 2; have L4 := Lib.hid (L3.out.drew.trans l4); clear l4)
          | (go_simp; go_at_call 16; refine (isType_any 1 _).mono ?_; intro e w5 h; obtain ⟨rfl, l5⟩ := TellsP.yes (by decide) (SaysP.tells h); have V5 := V4.later l5; have R5 := R4.later l5; have y0 := V5.cell 0 _ rfl; have y1 := V5.cell 1 _ rfl; have y2 := V5.cell 2 _ rfl; have s0 := R5.cell 0 _ rfl; have s1 := R5.cell 1 _ rfl; have s2 := R5.cell 2 _ rfl; have k0 := R5.frozen 0; have k1 := R5.frozen 1; have k2 := R5.frozen 2; have L5 := Lib.hid (L4.out.trans l5); clear l5))
       | fail "no walk"
      all_goals go_wp2_with fail
      all_goals
        have R9 := three_blk R4 rfl (.int .i64 1) (.int .i64 (zag u)) (.string ⟨#[]⟩)
        have L9 := three_later L4.out (show w.heap.size ≤ g by have := HG.out; omega) (.int .i64 1) (.int .i64 (zag u)) (.string ⟨#[]⟩)
        obtain ⟨w9, hw9⟩ : ∃ w9, w9 = (((w4.setCell ⟨g, 0, none⟩ (.int .i64 1)).setCell ⟨g, 1, none⟩ (.int .i64 (zag u))).setCell ⟨g, 2, none⟩ (.string ⟨#[]⟩)) := ⟨_, rfl⟩
        rw [← hw9] at R9 L9 ⊢
        have x0 := R9.cell 0 _ rfl
        have x1 := R9.cell 1 _ rfl
        have x2 := R9.cell 2 _ rfl
        refine bodyPost_ret (v := .tuple #[vagg 1 (zag u) ⟨#[]⟩, .int .i64 n, .bool false]) (by simp [results, Tryz.results65, go_sem, x0, x1, x2]) rfl ?_
        exact TakesO.no HO.out _ _ _ _ L9
  · have HO := Lib.hid (HNONE.out (HRC.out.trans (by rw [hT])))
    have r0 := R2.cell 0 _ rfl
    have r1 := R2.cell 1 _ rfl
    have r2 := R2.cell 2 _ rfl
    have f0 := R2.frozen 0
    have f1 := R2.frozen 1
    have f2 := R2.frozen 2
    clear hT hT0 HU
    go_wp2_with fail
    have R9 := three_blk R2 rfl (.int .i64 0) (.int .i64 0) (.string ⟨#[]⟩)
    have L9 := three_later HL2.out (show w.heap.size ≤ g by have := HG.out; omega) (.int .i64 0) (.int .i64 0) (.string ⟨#[]⟩)
    obtain ⟨w9, hw9⟩ : ∃ w9, w9 = (((w2.setCell ⟨g, 0, none⟩ (.int .i64 0)).setCell ⟨g, 1, none⟩ (.int .i64 0)).setCell ⟨g, 2, none⟩ (.string ⟨#[]⟩)) := ⟨_, rfl⟩
    rw [← hw9] at R9 L9 ⊢
    have x0 := R9.cell 0 _ rfl
    have x1 := R9.cell 1 _ rfl
    have x2 := R9.cell 2 _ rfl
    refine bodyPost_ret (v := .tuple #[vagg 0 0 ⟨#[]⟩, .int .i64 0, .bool false]) (by simp [results, Tryz.results65, go_sem, x0, x1, x2]) rfl ?_
    exact TakesO.no HO.out _ _ _ _ L9
end Go.Proofs.YtldalkhmbpkjpaaGreatDoor

/- The walk of the reference's takeOne: of truths. -/

namespace Go.Proofs.YtldalkhmbpkjpaaGreatDoor
open Go.RowKit
set_option linter.unusedVariables false

set_option maxRecDepth 100000 in
set_option maxHeartbeats 2000000 in
theorem takeOne_truth (b off n c x : Nat) (w : World) (hn : 1 ≤ n) (hb : b < w.heap.size) (hc0 : w.cell? ⟨b, off, none⟩ = some (.int .u8 (x : Int))) (hx : x < 256) (o : Option (Int × List Nat × Nat)) (hy : MayV 3 (x : Int) (⟨#[]⟩ : ByteArray).size → o = some ((x : Int), [], 1)) (hno : ¬ MayV 3 (x : Int) (⟨#[]⟩ : ByteArray).size → o = none) :
    Calls Tryz.prog 65 #[.int .i64 3, .slice (some ⟨b, off, none⟩) n c] w (TakesO o 3 w) := by
  have hn0 : ((n : Int) == 0) = false := by rw [beq_eq_false_iff_ne]; omega
  have HY := Lib.hid hy
  have HN := Lib.hid hno
  clear hy hno
  obtain ⟨w3, hw3, L3, R3, V3, z3⟩ := two_new w #[.int .i64 0, .int .i64 0, .string ⟨#[]⟩] #[.int .i64 3, .int .i64 (x : Int), .string ⟨#[]⟩] 26 26
  have L3 := Lib.hid L3
  have HW := Lib.hid hw3
  obtain ⟨g, hg⟩ : ∃ g, g = w.heap.size := ⟨_, rfl⟩
  obtain ⟨g1, hg1⟩ : ∃ g1, g1 = w.heap.size + 1 := ⟨_, rfl⟩
  have HG := Lib.hid hg
  have HG1 := Lib.hid hg1
  rw [← hg1] at V3
  rw [← hg] at R3
  clear hw3 z3 hg hg1
  go_enter Tryz.func65, Tryz.ntmps65
  go_wp2_with fail
  rw [← HW.out, ← HG1.out, ← HG.out]
  by_cases hm : MayV 3 (x : Int) (⟨#[]⟩ : ByteArray).size
  · have HO := Lib.hid (HY.out hm)
    have HM := Lib.hid hm
    clear hm HW
    have VV := V3
    have RR := R3
    have v0 := V3.cell 0 _ rfl
    have v1 := V3.cell 1 _ rfl
    have v2 := V3.cell 2 _ rfl
    first
     | go_region_law (first
        | (go_simp; go_at_call 31; refine (refMay_any 3 (x : Int) ⟨#[]⟩ _).mono ?_; intro e w4 h; obtain ⟨rfl, l4⟩ := TellsP.yes HM.out (SaysP.tells h); have V4 := VV.drew.later l4; have R4 := RR.drew.later l4; have u0 := V4.cell 0 _ rfl; have u1 := V4.cell 1 _ rfl; have u2 := V4.cell 2 _ rfl; have r0 := R4.cell 0 _ rfl; have r1 := R4.cell 1 _ rfl; have r2 := R4.cell 2 _ rfl; have f0 := R4.frozen 0; have f1 := R4.frozen 1; have f2 := R4.frozen 2; have L4 := Lib.hid (L3.out.drew.trans l4); clear l4)
        | (go_simp; go_at_call 16; refine (isType_any 3 _).mono ?_; intro e w5 h; obtain ⟨rfl, l5⟩ := TellsP.yes (by decide) (SaysP.tells h); have V5 := V4.later l5; have R5 := R4.later l5; have y0 := V5.cell 0 _ rfl; have y1 := V5.cell 1 _ rfl; have y2 := V5.cell 2 _ rfl; have s0 := R5.cell 0 _ rfl; have s1 := R5.cell 1 _ rfl; have s2 := R5.cell 2 _ rfl; have k0 := R5.frozen 0; have k1 := R5.frozen 1; have k2 := R5.frozen 2; have L5 := Lib.hid (L4.out.trans l5); clear l5))
     | fail "no walk"
    all_goals go_wp2_with fail
    all_goals
      have R9 := three_blk R5 rfl (.int .i64 3) (.int .i64 (x : Int)) (.string ⟨#[]⟩)
      have L9 := three_later L5.out (show w.heap.size ≤ g by have := HG.out; omega) (.int .i64 3) (.int .i64 (x : Int)) (.string ⟨#[]⟩)
      obtain ⟨w9, hw9⟩ : ∃ w9, w9 = (((w5.setCell ⟨g, 0, none⟩ (.int .i64 3)).setCell ⟨g, 1, none⟩ (.int .i64 (x : Int))).setCell ⟨g, 2, none⟩ (.string ⟨#[]⟩)) := ⟨_, rfl⟩
      rw [← hw9] at R9 L9 ⊢
      have x0 := R9.cell 0 _ rfl
      have x1 := R9.cell 1 _ rfl
      have x2 := R9.cell 2 _ rfl
      refine bodyPost_ret (v := .tuple #[vagg 3 (x : Int) ⟨#[]⟩, .int .i64 1, .bool true]) (by simp [results, Tryz.results65, go_sem, x0, x1, x2]) rfl ?_
      rw [← bstr_nil]; exact TakesO.yes HO.out L9
  · have HO := Lib.hid (HN.out hm)
    have HM := Lib.hid hm
    clear hm HW
    have VV := V3
    have RR := R3
    have v0 := V3.cell 0 _ rfl
    have v1 := V3.cell 1 _ rfl
    have v2 := V3.cell 2 _ rfl
    first
     | go_region_law (first
        | (go_simp; go_at_call 31; refine (refMay_any 3 (x : Int) ⟨#[]⟩ _).mono ?_; intro e w4 h; obtain ⟨rfl, l4⟩ := TellsP.no HM.out (SaysP.tells h); have V4 := VV.drew.later l4; have R4 := RR.drew.later l4; have u0 := V4.cell 0 _ rfl; have u1 := V4.cell 1 _ rfl; have u2 := V4.cell 2 _ rfl; have r0 := R4.cell 0 _ rfl; have r1 := R4.cell 1 _ rfl; have r2 := R4.cell 2 _ rfl; have f0 := R4.frozen 0; have f1 := R4.frozen 1; have f2 := R4.frozen 2; have L4 := Lib.hid (L3.out.drew.trans l4); clear l4)
        | (go_simp; go_at_call 16; refine (isType_any 3 _).mono ?_; intro e w5 h; obtain ⟨rfl, l5⟩ := TellsP.yes (by decide) (SaysP.tells h); have V5 := V4.later l5; have R5 := R4.later l5; have y0 := V5.cell 0 _ rfl; have y1 := V5.cell 1 _ rfl; have y2 := V5.cell 2 _ rfl; have s0 := R5.cell 0 _ rfl; have s1 := R5.cell 1 _ rfl; have s2 := R5.cell 2 _ rfl; have k0 := R5.frozen 0; have k1 := R5.frozen 1; have k2 := R5.frozen 2; have L5 := Lib.hid (L4.out.trans l5); clear l5))
     | fail "no walk"
    all_goals go_wp2_with fail
    all_goals
      have R9 := three_blk R4 rfl (.int .i64 3) (.int .i64 (x : Int)) (.string ⟨#[]⟩)
      have L9 := three_later L4.out (show w.heap.size ≤ g by have := HG.out; omega) (.int .i64 3) (.int .i64 (x : Int)) (.string ⟨#[]⟩)
      obtain ⟨w9, hw9⟩ : ∃ w9, w9 = (((w4.setCell ⟨g, 0, none⟩ (.int .i64 3)).setCell ⟨g, 1, none⟩ (.int .i64 (x : Int))).setCell ⟨g, 2, none⟩ (.string ⟨#[]⟩)) := ⟨_, rfl⟩
      rw [← hw9] at R9 L9 ⊢
      have x0 := R9.cell 0 _ rfl
      have x1 := R9.cell 1 _ rfl
      have x2 := R9.cell 2 _ rfl
      refine bodyPost_ret (v := .tuple #[vagg 3 (x : Int) ⟨#[]⟩, .int .i64 1, .bool false]) (by simp [results, Tryz.results65, go_sem, x0, x1, x2]) rfl ?_
      exact TakesO.no HO.out _ _ _ _ L9
end Go.Proofs.YtldalkhmbpkjpaaGreatDoor
