
import Derived.Test.YtldalkhmbpkjpaaGreatDoorRefL
import Derived.Test.YtldalkhmbpkjpaaGreatDoorRefOneC
/- The walk of the reference's takeOne: of texts. -/

namespace Go.Proofs.YtldalkhmbpkjpaaGreatDoor
open Go.RowKit
set_option linter.unusedVariables false

set_option maxRecDepth 100000 in
theorem takeOne_short (b off n c x : Nat) (w : World) (hn : 1 ≤ n) (hn2 : n ≤ 1000000) (hb : b < w.heap.size) (hc0 : w.cell? ⟨b, off, none⟩ = some (.int .u8 (x : Int))) (hx : x < 256) (hlt : (n : Int) < 1 + (x : Int)) :
    Calls Tryz.prog 65 #[.int .i64 4, .slice (some ⟨b, off, none⟩) n c] w (TakesO none 4 w) := by
  have hn0 : ((n : Int) == 0) = false := by rw [beq_eq_false_iff_ne]; omega
  go_enter Tryz.func65, Tryz.ntmps65
  go_wp2_with fail
  exact bodyPost_ret (v := .tuple #[vagg 0 0 ⟨#[]⟩, .int .i64 0, .bool false]) (by simp [results, Tryz.results65, go_sem]) rfl (TakesO.no rfl _ _ _ _ (((Later.refl w).alloc _).alloc _))

set_option maxRecDepth 100000 in
set_option maxHeartbeats 2000000 in
theorem takeOne_text (b off n c x : Nat) (q : List Nat) (w : World) (hn : 1 ≤ n) (hn2 : n ≤ 1000000) (hnc : n ≤ c) (hc : c ≤ 9223372036854775807) (hb : b < w.heap.size) (hc0 : w.cell? ⟨b, off, none⟩ = some (.int .u8 (x : Int))) (hx : x < 256) (hlt : ¬ (n : Int) < 1 + (x : Int)) (hq : q.length = x) (hr : Has w (some ⟨b, off + 1, none⟩) (ints .u8 q)) (o : Option (Int × List Nat × Nat)) (hy : MayV 4 0 (bstr q).size → o = some (0, q, 1 + x)) (hno : ¬ MayV 4 0 (bstr q).size → o = none) :
    Calls Tryz.prog 65 #[.int .i64 4, .slice (some ⟨b, off, none⟩) n c] w (TakesO o 4 w) := by
  have hn0 : ((n : Int) == 0) = false := by rw [beq_eq_false_iff_ne]; omega
  have HZ := Lib.hid (show ((1 + x : Nat) : Int) = 1 + (x : Int) by omega)
  have HY := Lib.hid hy
  have HN := Lib.hid hno
  clear hy hno
  obtain ⟨S, hS⟩ : ∃ S, S = bstr q := ⟨_, rfl⟩
  have HSS := Lib.hid hS
  have L2 : Later w ((w.alloc (.cells #[.int .i64 0, .int .i64 0, .string ⟨#[]⟩] 26)).alloc (.cells #[.int .i64 4, .int .i64 0, .string ⟨#[]⟩] 26)) := ((Later.refl w).alloc _).alloc _
  have hcv : ∀ cc, (convert 22 9 (.slice (if c = 1 then some ⟨b, off, none⟩ else some ⟨b, off + 1, none⟩) x cc)).run Tryz.prog ((w.alloc (.cells #[.int .i64 0, .int .i64 0, .string ⟨#[]⟩] 26)).alloc (.cells #[.int .i64 4, .int .i64 0, .string ⟨#[]⟩] 26)) = .ok (.string S) ((w.alloc (.cells #[.int .i64 0, .int .i64 0, .string ⟨#[]⟩] 26)).alloc (.cells #[.int .i64 4, .int .i64 0, .string ⟨#[]⟩] 26)) := fun cc => by
    rw [hS]
    split
    · obtain rfl : x = 0 := by omega
      obtain rfl : q = [] := List.eq_nil_of_length_eq_zero hq
      exact conv_str (some ⟨b, off, none⟩) 0 cc [] rfl _ _ (Has.later (w := w) .nil_ L2)
    · exact conv_str (some ⟨b, off + 1, none⟩) x cc q hq.symm _ _ (hr.later L2)
  obtain ⟨w3, hw3, L3, R3, V3, z3⟩ := two_new w #[.int .i64 0, .int .i64 0, .string ⟨#[]⟩] #[.int .i64 4, .int .i64 0, .string S] 26 26
  have L3 := Lib.hid L3
  have HW := Lib.hid hw3
  obtain ⟨g, hg⟩ : ∃ g, g = w.heap.size := ⟨_, rfl⟩
  obtain ⟨g1, hg1⟩ : ∃ g1, g1 = w.heap.size + 1 := ⟨_, rfl⟩
  have HG := Lib.hid hg
  have HG1 := Lib.hid hg1
  rw [← hg1] at V3
  rw [← hg] at R3
  rw [← hS] at HY HN
  clear hw3 z3 hg hg1 hS hr hq L2
  by_cases h1 : c = 1
  · simp only [h1, if_true] at hcv
    subst h1
    obtain rfl : x = 0 := by omega
    obtain rfl : n = 1 := by omega
    go_enter Tryz.func65, Tryz.ntmps65
    go_wp2_with fail
    rw [← HW.out, ← HG1.out, ← HG.out]
    by_cases hm : MayV 4 0 S.size
    · have HO := Lib.hid (HY.out hm)
      have HM := Lib.hid hm
      clear hm HW hcv
      have VV := V3
      have RR := R3
      have v0 := V3.cell 0 _ rfl
      have v1 := V3.cell 1 _ rfl
      have v2 := V3.cell 2 _ rfl
      first
       | go_region_law (first
          | (go_simp; go_at_call 31; refine (refMay_any 4 0 S _).mono ?_; intro e w4 h; obtain ⟨rfl, l4⟩ := TellsP.yes HM.out (SaysP.tells h); have V4 := VV.drew.later l4; have R4 := RR.drew.later l4; have u0 := V4.cell 0 _ rfl; have u1 := V4.cell 1 _ rfl; have u2 := V4.cell 2 _ rfl; have r0 := R4.cell 0 _ rfl; have r1 := R4.cell 1 _ rfl; have r2 := R4.cell 2 _ rfl; have f0 := R4.frozen 0; have f1 := R4.frozen 1; have f2 := R4.frozen 2; have L4 := Lib.hid (L3.out.drew.trans l4); clear l4)
          | (go_simp; go_at_call 16; refine (isType_any 4 _).mono ?_; intro e w5 h; obtain ⟨rfl, l5⟩ := TellsP.yes (by decide) (SaysP.tells h); have V5 := V4.later l5; have R5 := R4.later l5; have y0 := V5.cell 0 _ rfl; have y1 := V5.cell 1 _ rfl; have y2 := V5.cell 2 _ rfl; have s0 := R5.cell 0 _ rfl; have s1 := R5.cell 1 _ rfl; have s2 := R5.cell 2 _ rfl; have k0 := R5.frozen 0; have k1 := R5.frozen 1; have k2 := R5.frozen 2; have L5 := Lib.hid (L4.out.trans l5); clear l5))
       | fail "no walk"
      all_goals go_wp2_with fail
      all_goals
        have R9 := three_blk R5 rfl (.int .i64 4) (.int .i64 0) (.string S)
        have L9 := three_later L5.out (show w.heap.size ≤ g by have := HG.out; omega) (.int .i64 4) (.int .i64 0) (.string S)
        obtain ⟨w9, hw9⟩ : ∃ w9, w9 = (((w5.setCell ⟨g, 0, none⟩ (.int .i64 4)).setCell ⟨g, 1, none⟩ (.int .i64 0)).setCell ⟨g, 2, none⟩ (.string S)) := ⟨_, rfl⟩
        rw [← hw9] at R9 L9 ⊢
        have x0 := R9.cell 0 _ rfl
        have x1 := R9.cell 1 _ rfl
        have x2 := R9.cell 2 _ rfl
        refine bodyPost_ret (v := .tuple #[vagg 4 0 S, .int .i64 1, .bool true]) (by simp [results, Tryz.results65, go_sem, x0, x1, x2]) rfl ?_
        rw [HSS.out]; first | exact TakesO.yes HO.out L9 | (rw [← HZ.out]; exact TakesO.yes HO.out L9)
    · have HO := Lib.hid (HN.out hm)
      have HM := Lib.hid hm
      clear hm HW hcv
      have VV := V3
      have RR := R3
      have v0 := V3.cell 0 _ rfl
      have v1 := V3.cell 1 _ rfl
      have v2 := V3.cell 2 _ rfl
      first
       | go_region_law (first
          | (go_simp; go_at_call 31; refine (refMay_any 4 0 S _).mono ?_; intro e w4 h; obtain ⟨rfl, l4⟩ := TellsP.no HM.out (SaysP.tells h); have V4 := VV.drew.later l4; have R4 := RR.drew.later l4; have u0 := V4.cell 0 _ rfl; have u1 := V4.cell 1 _ rfl; have u2 := V4.cell 2 _ rfl; have r0 := R4.cell 0 _ rfl; have r1 := R4.cell 1 _ rfl; have r2 := R4.cell 2 _ rfl; have f0 := R4.frozen 0; have f1 := R4.frozen 1; have f2 := R4.frozen 2; have L4 := Lib.hid (L3.out.drew.trans l4); clear l4)
          | (go_simp; go_at_call 16; refine (isType_any 4 _).mono ?_; intro e w5 h; obtain ⟨rfl, l5⟩ := TellsP.yes (by decide) (SaysP.tells h); have V5 := V4.later l5; have R5 := R4.later l5; have y0 := V5.cell 0 _ rfl; have y1 := V5.cell 1 _ rfl; have y2 := V5.cell 2 _ rfl; have s0 := R5.cell 0 _ rfl; have s1 := R5.cell 1 _ rfl; have s2 := R5.cell 2 _ rfl; have k0 := R5.frozen 0; have k1 := R5.frozen 1; have k2 := R5.frozen 2; have L5 := Lib.hid (L4.out.trans l5); clear l5))
       | fail "no walk"
      all_goals go_wp2_with fail
      all_goals
        have R9 := three_blk R4 rfl (.int .i64 4) (.int .i64 0) (.string S)
        have L9 := three_later L4.out (show w.heap.size ≤ g by have := HG.out; omega) (.int .i64 4) (.int .i64 0) (.string S)
        obtain ⟨w9, hw9⟩ : ∃ w9, w9 = (((w4.setCell ⟨g, 0, none⟩ (.int .i64 4)).setCell ⟨g, 1, none⟩ (.int .i64 0)).setCell ⟨g, 2, none⟩ (.string S)) := ⟨_, rfl⟩
        rw [← hw9] at R9 L9 ⊢
        have x0 := R9.cell 0 _ rfl
        have x1 := R9.cell 1 _ rfl
        have x2 := R9.cell 2 _ rfl
        refine bodyPost_ret (v := .tuple #[vagg 4 0 S, .int .i64 1, .bool false]) (by simp [results, Tryz.results65, go_sem, x0, x1, x2]) rfl ?_
        exact TakesO.no HO.out _ _ _ _ L9
  · simp only [h1, if_false] at hcv
    go_enter Tryz.func65, Tryz.ntmps65
    go_wp2_with fail
    rw [← HW.out, ← HG1.out, ← HG.out]
    by_cases hm : MayV 4 0 S.size
    · have HO := Lib.hid (HY.out hm)
      have HM := Lib.hid hm
      clear hm HW hcv
      have VV := V3
      have RR := R3
      have v0 := V3.cell 0 _ rfl
      have v1 := V3.cell 1 _ rfl
      have v2 := V3.cell 2 _ rfl
      first
       | go_region_law (first
          | (go_simp; go_at_call 31; refine (refMay_any 4 0 S _).mono ?_; intro e w4 h; obtain ⟨rfl, l4⟩ := TellsP.yes HM.out (SaysP.tells h); have V4 := VV.drew.later l4; have R4 := RR.drew.later l4; have u0 := V4.cell 0 _ rfl; have u1 := V4.cell 1 _ rfl; have u2 := V4.cell 2 _ rfl; have r0 := R4.cell 0 _ rfl; have r1 := R4.cell 1 _ rfl; have r2 := R4.cell 2 _ rfl; have f0 := R4.frozen 0; have f1 := R4.frozen 1; have f2 := R4.frozen 2; have L4 := Lib.hid (L3.out.drew.trans l4); clear l4)
          | (go_simp; go_at_call 16; refine (isType_any 4 _).mono ?_; intro e w5 h; obtain ⟨rfl, l5⟩ := TellsP.yes (by decide) (SaysP.tells h); have V5 := V4.later l5; have R5 := R4.later l5; have y0 := V5.cell 0 _ rfl; have y1 := V5.cell 1 _ rfl; have y2 := V5.cell 2 _ rfl; have s0 := R5.cell 0 _ rfl; have s1 := R5.cell 1 _ rfl; have s2 := R5.cell 2 _ rfl; have k0 := R5.frozen 0; have k1 := R5.frozen 1; have k2 := R5.frozen 2; have L5 := Lib.hid (L4.out.trans l5); clear l5))
       | fail "no walk"
      all_goals go_wp2_with fail
      all_goals
        have R9 := three_blk R5 rfl (.int .i64 4) (.int .i64 0) (.string S)
        have L9 := three_later L5.out (show w.heap.size ≤ g by have := HG.out; omega) (.int .i64 4) (.int .i64 0) (.string S)
        obtain ⟨w9, hw9⟩ : ∃ w9, w9 = (((w5.setCell ⟨g, 0, none⟩ (.int .i64 4)).setCell ⟨g, 1, none⟩ (.int .i64 0)).setCell ⟨g, 2, none⟩ (.string S)) := ⟨_, rfl⟩
        rw [← hw9] at R9 L9 ⊢
        have x0 := R9.cell 0 _ rfl
        have x1 := R9.cell 1 _ rfl
        have x2 := R9.cell 2 _ rfl
        refine bodyPost_ret (v := .tuple #[vagg 4 0 S, .int .i64 (1 + (x : Int)), .bool true]) (by simp [results, Tryz.results65, go_sem, x0, x1, x2]) rfl ?_
        rw [HSS.out]; first | exact TakesO.yes HO.out L9 | (rw [← HZ.out]; exact TakesO.yes HO.out L9)
    · have HO := Lib.hid (HN.out hm)
      have HM := Lib.hid hm
      clear hm HW hcv
      have VV := V3
      have RR := R3
      have v0 := V3.cell 0 _ rfl
      have v1 := V3.cell 1 _ rfl
      have v2 := V3.cell 2 _ rfl
      first
       | go_region_law (first
          | (go_simp; go_at_call 31; refine (refMay_any 4 0 S _).mono ?_; intro e w4 h; obtain ⟨rfl, l4⟩ := TellsP.no HM.out (SaysP.tells h); have V4 := VV.drew.later l4; have R4 := RR.drew.later l4; have u0 := V4.cell 0 _ rfl; have u1 := V4.cell 1 _ rfl; have u2 := V4.cell 2 _ rfl; have r0 := R4.cell 0 _ rfl; have r1 := R4.cell 1 _ rfl; have r2 := R4.cell 2 _ rfl; have f0 := R4.frozen 0; have f1 := R4.frozen 1; have f2 := R4.frozen 2; have L4 := Lib.hid (L3.out.drew.trans l4); clear l4)
          | (go_simp; go_at_call 16; refine (isType_any 4 _).mono ?_; intro e w5 h; obtain ⟨rfl, l5⟩ := TellsP.yes (by decide) (SaysP.tells h); have V5 := V4.later l5; have R5 := R4.later l5; have y0 := V5.cell 0 _ rfl; have y1 := V5.cell 1 _ rfl; have y2 := V5.cell 2 _ rfl; have s0 := R5.cell 0 _ rfl; have s1 := R5.cell 1 _ rfl; have s2 := R5.cell 2 _ rfl; have k0 := R5.frozen 0; have k1 := R5.frozen 1; have k2 := R5.frozen 2; have L5 := Lib.hid (L4.out.trans l5); clear l5))
       | fail "no walk"
      all_goals go_wp2_with fail
      all_goals
        have R9 := three_blk R4 rfl (.int .i64 4) (.int .i64 0) (.string S)
        have L9 := three_later L4.out (show w.heap.size ≤ g by have := HG.out; omega) (.int .i64 4) (.int .i64 0) (.string S)
        obtain ⟨w9, hw9⟩ : ∃ w9, w9 = (((w4.setCell ⟨g, 0, none⟩ (.int .i64 4)).setCell ⟨g, 1, none⟩ (.int .i64 0)).setCell ⟨g, 2, none⟩ (.string S)) := ⟨_, rfl⟩
        rw [← hw9] at R9 L9 ⊢
        have x0 := R9.cell 0 _ rfl
        have x1 := R9.cell 1 _ rfl
        have x2 := R9.cell 2 _ rfl
        refine bodyPost_ret (v := .tuple #[vagg 4 0 S, .int .i64 (1 + (x : Int)), .bool false]) (by simp [results, Tryz.results65, go_sem, x0, x1, x2]) rfl ?_
        exact TakesO.no HO.out _ _ _ _ L9
end Go.Proofs.YtldalkhmbpkjpaaGreatDoor

/- The walk of the reference's takeOne, whole. -/

namespace Go.Proofs.YtldalkhmbpkjpaaGreatDoor
open Go.RowKit
set_option linter.unusedVariables false

theorem takeOne_any (t : Int) (ht : 1 ≤ t ∧ t ≤ 4) (A : Option Addr) (c : Nat) (b : List Nat) (w : World) (hr : Has w A (ints .u8 b)) (h256 : ∀ x ∈ b, x < 256) (hb : b.length ≤ 1000000) (hbc : b.length ≤ c) (hc : c ≤ 9223372036854775807) :
    Calls Tryz.prog 65 #[.int .i64 t, .slice A b.length c] w (TakesO (takeC t b) t w) := by
  match b, hr, h256, hb, hbc with
  | [], hr, h256, hb, hbc => exact takeOne_nil t ht A c w
  | x :: r, hr, h256, hb, hbc =>
    obtain rfl | rfl | rfl | rfl : t = 1 ∨ t = 2 ∨ t = 3 ∨ t = 4 := by omega
    · exact takeOne_num1 A c _ w (by simp) hr h256 hb hbc
    · exact takeOne_num2 A c _ w (by simp) hr h256 hb hbc
    · rcases hr with hr | ⟨bb, off, rfl, hbb, hcell⟩
      · cases hr
      · have h0 := hcell 0 _ rfl
        have e : readC 3 (x :: r) = some ((x : Int), [], 1) := rfl
        exact takeOne_truth bb off (x :: r).length c x w (by simp) hbb h0 (h256 x (by simp)) _ (fun hm => takeC_may e hm) (fun hm => takeC_not e hm)
    · have hr0 := hr
      rcases hr with hr | ⟨bb, off, rfl, hbb, hcell⟩
      · cases hr
      · have h0 := hcell 0 _ rfl
        have e : readC 4 (x :: r) = if x ≤ r.length then some (0, r.take x, 1 + x) else none := rfl
        rw [List.length_cons] at hb hbc ⊢
        by_cases hx : x ≤ r.length
        · rw [if_pos hx] at e
          refine takeOne_text bb off (r.length + 1) c x (r.take x) w (by omega) hb hbc hc hbb h0 (h256 x (by simp)) (by omega) (by rw [List.length_take]; omega) ?_ _ (fun hm => takeC_may e hm) (fun hm => takeC_not e hm)
          have h1 := (Has.take (Has.drop hr0 1) x)
          rw [show (ints .u8 (x :: r)).drop 1 = ints .u8 r from rfl, ints_take] at h1
          exact h1
        · rw [if_neg hx] at e
          rw [takeC_none e]
          exact takeOne_short bb off (r.length + 1) c x w (by omega) hb hbb h0 (h256 x (by simp)) (by omega)
end Go.Proofs.YtldalkhmbpkjpaaGreatDoor
