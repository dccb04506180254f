/- The walk of TagTorn. -/
import Derived.Test.YtnmldploafpbdaaDoorTagBack
namespace Go.Proofs.YtnmldploafpbdaaDoor
open Go.RowKit
set_option linter.unusedVariables false

set_option maxRecDepth 100000 in
theorem tagTorn_out (g s m0 n0 : Nat) (A : Option Addr) (n c : Nat) (B : Option Addr) (m cb : Nat) (at_ : Int) (no : Bool) (w : World) (hs : S20 w) (h : 110 < n ∨ 110 < m ∨ (m0 = 0 ∧ n0 = 0 ∧ no = false) ∨ (g = 0 ∧ s = 0)) :
    Calls Tryd.prog 7 #[.int .u32 g, .int .u32 s, .int .u32 m0, .int .u32 n0, .slice A n c, .slice B m cb, .int .u8 at_, .bool no] w fun e w' => e = .returned (.bool true) ∧ Later w w' := by
  have HB := Lib.hid (begun20_any w hs)
  clear hs
  by_cases h1 : n ≤ 110
  · have d1 : decide ((110 : Int) < (n : Int)) = false := by simp; omega
    by_cases h2 : m ≤ 110
    · have d2 : decide ((110 : Int) < (m : Int)) = false := by simp; omega
      by_cases h3 : m0 = 0 ∧ n0 = 0 ∧ no = false
      · obtain ⟨rfl, rfl, rfl⟩ := h3
        clear h
        go_enter Tryd.func7, Tryd.ntmps7
        go_wp2_with fail
        refine HB.out.mono ?_
        rintro e w1 ⟨rfl, l1⟩
        go_wp2_with fail
        go_ret
        exact ⟨rfl, l1⟩
      · obtain ⟨rfl, rfl⟩ : g = 0 ∧ s = 0 := by
          rcases h with h | h | h | h
          · omega
          · omega
          · exact absurd h h3
          · exact h
        by_cases hm0 : m0 = 0
        · by_cases hn0 : n0 = 0
          · subst hm0 hn0
            obtain rfl : no = true := by
              cases no
              · exact absurd ⟨rfl, rfl, rfl⟩ h3
              · rfl
            clear h h3
            go_enter Tryd.func7, Tryd.ntmps7
            go_wp2_with fail
            refine HB.out.mono ?_
            rintro e w1 ⟨rfl, l1⟩
            go_wp2_with fail
            go_ret
            exact ⟨rfl, l1⟩
          · subst hm0
            have hz : ((n0 : Int) == 0) = false := by rw [beq_eq_false_iff_ne]; omega
            clear h h3
            go_enter Tryd.func7, Tryd.ntmps7
            go_wp2_with fail
            refine HB.out.mono ?_
            rintro e w1 ⟨rfl, l1⟩
            go_wp2_with fail
            go_ret
            exact ⟨rfl, l1⟩
        · have hz : ((m0 : Int) == 0) = false := by rw [beq_eq_false_iff_ne]; omega
          clear h h3
          go_enter Tryd.func7, Tryd.ntmps7
          go_wp2_with fail
          refine HB.out.mono ?_
          rintro e w1 ⟨rfl, l1⟩
          go_wp2_with fail
          go_ret
          exact ⟨rfl, l1⟩
    · have d2 : decide ((110 : Int) < (m : Int)) = true := by simp; omega
      clear h
      go_enter Tryd.func7, Tryd.ntmps7
      go_wp2_with fail
      refine HB.out.mono ?_
      rintro e w1 ⟨rfl, l1⟩
      go_wp2_with fail
      go_ret
      exact ⟨rfl, l1⟩
  · have d1 : decide ((110 : Int) < (n : Int)) = true := by simp; omega
    clear h
    go_enter Tryd.func7, Tryd.ntmps7
    go_wp2_with fail
    refine HB.out.mono ?_
    rintro e w1 ⟨rfl, l1⟩
    go_wp2_with fail
    go_ret
    exact ⟨rfl, l1⟩

set_option maxRecDepth 100000 in
set_option maxHeartbeats 8000000 in
theorem tagTorn_walk (g s m0 n0 : Nat) (A : Option Addr) (n c : Nat) (a : List Nat) (B : Option Addr) (m cb : Nat) (b : List Nat) (at_ : Nat) (no : Bool) (w : World) (hs : S20 w) (hg : g < 4294967296) (hsq : s < 4294967296) (hm0 : m0 < 4294967296) (hn0 : n0 < 4294967296) (hat : at_ < 256)
    (hn : n = a.length) (hn110 : n ≤ 110) (hr : Has w A (ints .u8 a)) (h256 : ∀ x ∈ a, x < 256) (hnil : A = none → c = 0) (hm : m = b.length) (hm110 : m ≤ 110) (hrb : Has w B (ints .u8 b)) (hb256 : ∀ x ∈ b, x < 256) (hnilb : B = none → cb = 0) (hz : ¬ (m0 = 0 ∧ n0 = 0 ∧ no = false)) (hgs : ¬ (g = 0 ∧ s = 0)) :
    Calls Tryd.prog 7 #[.int .u32 g, .int .u32 s, .int .u32 m0, .int .u32 n0, .slice A n c, .slice B m cb, .int .u8 at_, .bool no] w fun e w' => e = .returned (.bool true) ∧ Later w w' := by
  have HB := Lib.hid (begun20_any w hs)
  have HS := Lib.hid hs
  have HR := Lib.hid hr
  have HRB := Lib.hid hrb
  have HN := Lib.hid hn
  have HM := Lib.hid hm
  have HNIL := Lib.hid hnil
  have HNILB := Lib.hid hnilb
  have d1 : decide ((110 : Int) < (n : Int)) = false := by simp; omega
  have d2 : decide ((110 : Int) < (m : Int)) = false := by simp; omega
  obtain ⟨g', hg'⟩ : ∃ g', g' = (g + m0) % 4294967296 := ⟨_, rfl⟩
  obtain ⟨s', hs'⟩ : ∃ s', s' = (s + n0) % 4294967296 := ⟨_, rfl⟩
  have e1 : IntKind.u32.wrap ((g : Int) + (m0 : Int)) = (g' : Int) := by rw [wrap_u32']; omega
  have e2 : IntKind.u32.wrap ((s : Int) + (n0 : Int)) = (s' : Int) := by rw [wrap_u32']; omega
  have hgl : g' < 4294967296 := by omega
  have hsl : s' < 4294967296 := by omega
  obtain ⟨k, hk⟩ : ∃ k, k = at_ % 129 := ⟨_, rfl⟩
  have hkk : (at_ : Int) % 129 = (k : Int) := by omega
  have hkt : Int.tmod (at_ : Int) 129 = (k : Int) := by rw [Int.tmod_eq_emod_of_nonneg (by omega)]; exact hkk
  have hk128 : k ≤ 128 := by omega
  have haw : IntKind.i64.wrap (at_ : Int) = (at_ : Int) := IntWalk.i64_in _ ⟨by omega, by omega⟩
  -- the block that is torn over
  obtain ⟨y, hy⟩ : ∃ y, y = (if no then List.replicate 128 0 else tagB g' s' b) := ⟨_, rfl⟩
  have hy128 : y.length = 128 := by
    rw [hy]; cases no
    · exact tagB_len (by omega)
    · simp
  have hy256 : ∀ x ∈ y, x < 256 := by
    rw [hy]; cases no
    · exact tagB_lt (by omega) hb256
    · intro x hx
      have := (List.mem_replicate.1 hx).2
      omega
  have hyt : y.drop 120 ≠ nums8 g s := by
    rw [hy]; cases no
    · intro h
      rw [show (if false = true then List.replicate 128 0 else tagB g' s' b) = tagB g' s' b from rfl, tagB_tail (by omega)] at h
      have := nums8_inj hgl hsl hg hsq h
      exact hz ⟨by omega, by omega, rfl⟩
    · intro h
      rw [show (if true = true then List.replicate 128 0 else tagB g' s' b) = List.replicate 128 0 from rfl, List.drop_replicate] at h
      have h2 : nums8 0 0 = nums8 g s := by rw [nums8_zero]; exact h
      have := nums8_inj (by decide) (by decide) hg hsq h2
      exact hgs ⟨by omega, by omega⟩
  have ha110 : a.length ≤ 110 := by omega
  have hx128 := tagB_len (g := g) (s := s) ha110
  have hx256 := tagB_lt (g := g) (s := s) ha110 h256
  have htk := takeT20_torn (g := g) (s := s) (a := a) (y := y) ha110 hy128 hyt k hk128
  obtain ⟨tt, htt⟩ : ∃ tt, tt = (tagB g s a).take k ++ y.drop k := ⟨_, rfl⟩
  rw [← htt] at htk
  have htl : tt.length = 128 := by rw [htt, List.length_append, List.length_take, List.length_drop]; omega
  have ht256 : ∀ x ∈ tt, x < 256 := by
    intro x hx
    rw [htt] at hx
    rcases List.mem_append.1 hx with hx | hx
    · exact hx256 x (List.mem_of_mem_take hx)
    · exact hy256 x (List.mem_of_mem_drop hx)
  have hp1 : putT20 g s a = some (tagB g s a) := if_pos ha110
  have hp2 : putT20 g' s' b = some (tagB g' s' b) := if_pos (by omega)
  have HP1 := Lib.hid hp1
  have HP2 := Lib.hid hp2
  have HTK := Lib.hid htk
  have HTL := Lib.hid htl
  have HT256 := Lib.hid ht256
  have HX128 := Lib.hid hx128
  have HX256 := Lib.hid hx256
  have HY := Lib.hid hy
  have HY128 := Lib.hid hy128
  have HTT := Lib.hid htt
  have HZ := Lib.hid hz
  have HGS := Lib.hid hgs
  clear hs hr hrb hn hm h256 hb256 hnil hnilb hg' hs' hk hy hy128 hy256 hyt ha110 hx128 hx256 htk htt htl ht256 hp1 hp2
  go_enter Tryd.func7, Tryd.ntmps7
  go_wp2_with fail
  refine HB.out.mono ?_
  rintro e w1 ⟨rfl, l1⟩
  have HL1 := Lib.hid l1
  have C1 := Lib.hid (tagPut_any g s A n c a w1 hg hsq HN.out (HR.out.later l1) HNIL.out)
  clear l1 HB hz hgs
  have hA : (((m0 : Int) == 0) = false) ∨ (((m0 : Int) == 0) = true ∧ ((n0 : Int) == 0) = false) ∨ (((m0 : Int) == 0) = true ∧ ((n0 : Int) == 0) = true ∧ no = true) := by
    have hz := HZ.out
    by_cases h1 : m0 = 0
    · by_cases h2 : n0 = 0
      · cases no
        · exact absurd ⟨h1, h2, rfl⟩ hz
        · exact .inr (.inr ⟨by rw [h1]; rfl, by rw [h2]; rfl, rfl⟩)
      · exact .inr (.inl ⟨by rw [h1]; rfl, by rw [beq_eq_false_iff_ne]; omega⟩)
    · exact .inl (by rw [beq_eq_false_iff_ne]; omega)
  have hB : (((g : Int) == 0) = false) ∨ (((g : Int) == 0) = true ∧ ((s : Int) == 0) = false) := by
    have hz := HGS.out
    by_cases h1 : g = 0
    · exact .inr ⟨by rw [h1]; rfl, by rw [beq_eq_false_iff_ne]; omega⟩
    · exact .inl (by rw [beq_eq_false_iff_ne]; omega)
  have hmk : ∀ W : World, (Instr.makeSlice 39 (.int .i64 128) (.int .i64 128)).run Tryd.prog W = .ok (.slice (some ⟨W.heap.size, 0, none⟩) 128 128) (W.alloc (.cells (madeCells #[.int .u8 0] 128) 5)) := fun W => run_make_cap 128 128 (by decide) (by decide) W
  clear HZ HGS
  rcases hA with f1 | ⟨f1, f2⟩ | ⟨f1, f2, rfl⟩
  · rcases hB with f3 | ⟨f3, f4⟩
    all_goals rcases no with _ | _
    all_goals
      go_wp2_with fail
      refine C1.out.mono ?_
      intro e w2 h
      obtain ⟨A2, cx, rfl, o2, l2⟩ := h.yes HP1.out
      obtain ⟨gx, rfl⟩ := own_some o2 (by decide)
      have HX2 := Lib.hid (Has.own o2)
      have HCX := Lib.hid (own_cap o2)
      have HCXM := Lib.hid (own_capmax o2)
      have HL2 := Lib.hid (HL1.out.trans l2)
      have C2 := Lib.hid (tagPut_any g' s' B m cb b w2 hgl hsl HM.out (HRB.out.later HL2.out) HNILB.out)
      clear h o2 l2 C1
      go_wp2_with fail
      refine C2.out.mono ?_
      intro e w3 h
      obtain ⟨A3, cz, rfl, o3, l3⟩ := h.yes HP2.out
      obtain ⟨gz, rfl⟩ := own_some o3 (by decide)
      have HL3 := Lib.hid (HL2.out.trans l3)
      have HX3 := Lib.hid (HX2.out.later l3)
      have HZ3 := Lib.hid (Has.own o3)
      have HCZ := Lib.hid (own_cap o3)
      have HCZM := Lib.hid (own_capmax o3)
      clear h l3 C2 HX2 HL2 o3
    · obtain ⟨wy, hwy⟩ : ∃ x, x = w3 := ⟨_, rfl⟩
      rw [← hwy] at HL3 HX3 HZ3 ⊢
      obtain ⟨gy, hgy⟩ : ∃ x, x = gz := ⟨_, rfl⟩
      obtain ⟨cy, hcy⟩ : ∃ x, x = cz := ⟨_, rfl⟩
      rw [← hgy] at HZ3 ⊢
      rw [← hcy] at HCZ HCZM ⊢
      have HYY := Lib.hid (show Has wy (some ⟨gy, 0, none⟩) (ints .u8 y) from by rw [HY.out]; exact HZ3.out)
      have HCY := Lib.hid (show 128 ≤ cy from HCZ.out)
      have HCYM := Lib.hid (show cy ≤ 9223372036854775807 from HCZM.out)
      have HLY := Lib.hid HL3.out
      have HXY := Lib.hid HX3.out
      clear hwy hgy hcy HL3 HX3 HZ3 HCZ HCZM hmk
      have hi1 : (0 : Int) ≤ (k : Int) := by omega
      have hi2 : (k : Int) ≤ 128 := by omega
      have hi3 : (k : Int) ≤ (cx : Int) := by have := HCX.out; omega
      have hi4 : (k : Int) ≤ (cy : Int) := by have := HCY.out; omega
      have hi5 : (128 : Int) ≤ (cy : Int) := by have := HCY.out; omega
      have hi6 : (128 : Int) - (k : Int) = ((128 - k : Nat) : Int) := by omega
      have hi7 : (cy : Int) - (k : Int) = ((cy - k : Nat) : Int) := by have := HCY.out; omega
      have L0 : Later wy (wy.alloc (.cells #[] 5)).drew := ((Later.refl wy).alloc _).drew
      have OWN := Lib.hid (show ((wy.alloc (.cells #[] 5)).drew).ownsRow wy.heap.size 5 1 (.slice (some ⟨wy.heap.size, 0, none⟩) 0 0) 0 [] from (Blk.new wy ([] : List Value).toArray 5 _ rfl).ownG (base := wy.heap.size) (size := 1) (n := 0) (Nat.le_refl _) rfl (by decide))
      have RX := Lib.hid (show Has _ (some ⟨gx, 0, none⟩) (ints .u8 ((tagB g s a).take k)) from by have h := (HXY.out.later L0).take k; rw [ints_take] at h; exact h)
      have HZ0 := Lib.hid L0.size
      have HL0 := Lib.hid L0
      clear L0
      by_cases hck : k < cy
      · have hcne : ¬ cy = k := by omega
        have RYD := Lib.hid (show Has wy (some ⟨gy, k, none⟩) (ints .u8 (y.drop k)) from by have h := HYY.out.drop k; rw [Nat.zero_add] at h; simpa [ints, List.map_drop] using h)
        go_wp2_with fail
        first | (go_region_law (first
          | (refine step_append_rd (by rfl) (.tmp 94) (.tmp 97) 39 (by rfl) wy.heap.size 5 (.int .u8 0) 1 Tryd.underlying39 info_u8 rfl _ 0 [] (by rfl) OWN.out _ (some ⟨gx, 0, none⟩) k cx (ints .u8 ((tagB g s a).take k)) (by rfl) RX.out.rd ?_ ?_ (ints_one _ _) ?_ ?_ ?_ ?_; (rw [ints_length, List.length_take, HX128.out]; omega); (intro h; cases h); (unfold maxLen; omega); omega; (exact HZ0.out); intro A2 c2 w6 o2 g2 b2 n2; rw [Nat.zero_add] at o2 ⊢; rw [List.nil_append] at o2; have HO2 := Lib.hid o2; have HL6 := Lib.hid (show Later wy w6 from Below.trans HL0.out b2); have RY := Lib.hid (RYD.out.later HL6.out); have HZ6 := Lib.hid b2.size; clear o2 g2 b2 n2)
          | (refine step_append_rd (by rfl) (.tmp 98) (.tmp 101) 39 (by rfl) wy.heap.size 5 (.int .u8 0) 1 Tryd.underlying39 info_u8 rfl _ k (ints .u8 ((tagB g s a).take k)) (by rfl) HO2.out _ (some ⟨gy, k, none⟩) (128 - k) (cy - k) (ints .u8 (y.drop k)) (by rfl) RY.out.rd ?_ ?_ (ints_one _ _) ?_ ?_ ?_ ?_; (rw [ints_length, List.length_drop, HY128.out]); (intro h; cases h); (unfold maxLen; omega); omega; (exact HL6.out.size); intro A3 c3 w7 o3 g3 b3 n3; rw [show k + (128 - k) = 128 by omega] at o3 ⊢; have HT7 := Lib.hid (show Has w7 A3 (ints .u8 tt) from by have h := Has.own o3; rw [← ints_snoc, ← HTT.out] at h; exact h); have HC7 := Lib.hid (own_cap o3); have HM7 := Lib.hid (own_capmax o3); have HL7 := Lib.hid (show Later wy w7 from Later.of (HL6.out.below.trans b3)); clear o3 g3 b3 n3))) | fail "no walk"
        all_goals
          have HTKK := Lib.hid (tagTake_any g s A3 128 c3 tt w7 hg hsq HTL.out.symm HT7.out HT256.out (by rw [HTL.out]; decide) HC7.out HM7.out (HS.out.later (HLY.out.trans HL7.out)))
          rw [HTK.out] at HTKK
          clear OWN RX HZ0 HL0
          go_wp2_with fail
          by_cases he : tt = tagB g s a
          · rw [if_pos he] at HTKK
            refine HTKK.out.mono ?_
            rintro e w8 ⟨Z, cz, rfl, hz8, l8⟩
            have HL8 := Lib.hid (HLY.out.trans (HL7.out.trans l8))
            have hl1 : ((some a : Option (List Nat)).getD []).length = n := HN.out.symm
            have hl2 : (some a : Option (List Nat)).isSome = true := rfl
            rw [hl1, hl2]
            have cv1 := conv_str A3 128 c3 tt HTL.out.symm w8 _ (HT7.out.later l8)
            have cv2 := conv_str (some ⟨gx, 0, none⟩) 128 cx (tagB g s a) HX128.out.symm w8 _ (HXY.out.later (HL7.out.trans l8))
            have cv3 := conv_str Z n cz a HN.out w8 _ (show Has w8 Z (ints .u8 a) from hz8)
            have cv4 := conv_str A n c a HN.out w8 _ (HR.out.later HL8.out)
            rw [he] at cv1
            obtain ⟨S1, hS1⟩ : ∃ S, S = bstr (tagB g s a) := ⟨_, rfl⟩
            obtain ⟨S2, hS2⟩ : ∃ S, S = bstr a := ⟨_, rfl⟩
            rw [← hS1] at cv1 cv2
            rw [← hS2] at cv3 cv4
            have hs1 : (S1.toList == S1.toList) = true := by simp
            have hs2 : (S2.toList == S2.toList) = true := by simp
            clear hl1 hl2 hz8 l8 hS1 hS2 he HTKK
            go_wp2_with fail
            go_ret
            exact ⟨rfl, HL8.out⟩
          · rw [if_neg he] at HTKK
            refine HTKK.out.mono ?_
            rintro e w8 ⟨Z, cz, rfl, _, l8⟩
            have HL8 := Lib.hid (HLY.out.trans (HL7.out.trans l8))
            have hl1 : ((none : Option (List Nat)).getD []).length = 0 := rfl
            have hl2 : (none : Option (List Nat)).isSome = false := rfl
            rw [hl1, hl2]
            have cv1 := conv_str A3 128 c3 tt HTL.out.symm w8 _ (HT7.out.later l8)
            have cv2 := conv_str (some ⟨gx, 0, none⟩) 128 cx (tagB g s a) HX128.out.symm w8 _ (HXY.out.later (HL7.out.trans l8))
            have hss := bstr_ne HT256.out HX256.out he
            obtain ⟨S1, hS1⟩ : ∃ S, S = bstr tt := ⟨_, rfl⟩
            obtain ⟨S2, hS2⟩ : ∃ S, S = bstr (tagB g s a) := ⟨_, rfl⟩
            rw [← hS1] at cv1 hss
            rw [← hS2] at cv2 hss
            clear hl1 hl2 l8 hS1 hS2 he HTKK
            go_wp2_with fail
            go_ret
            exact ⟨rfl, HL8.out⟩
      · obtain rfl : k = 128 := by have := HCY.out; omega
        have hcz : cy = 128 := by have := HCY.out; omega
        have hk2 : (at_ : Int) % 129 = 128 := hkk
        have hk3 : Int.tmod (at_ : Int) 129 = 128 := hkt
        have hj1 : (128 : Int) ≤ (cx : Int) := hi3
        have hj2 : 128 ≤ cx := HCX.out
        clear hkk hkt hi1 hi2 hi3 hi4 hi5 hi6 hi7 hck
        have RYD := Lib.hid (show Has wy (some ⟨gy, 0, none⟩) (ints .u8 (y.drop 128)) from by rw [List.drop_of_length_le (by rw [HY128.out]; exact Nat.le_refl _)]; exact .inl rfl)
        subst hcz
        go_wp2_with fail
        first | (go_region_law (first
          | (refine step_append_rd (by rfl) (.tmp 94) (.tmp 97) 39 (by rfl) wy.heap.size 5 (.int .u8 0) 1 Tryd.underlying39 info_u8 rfl _ 0 [] (by rfl) OWN.out _ (some ⟨gx, 0, none⟩) 128 cx (ints .u8 ((tagB g s a).take 128)) (by rfl) RX.out.rd ?_ ?_ (ints_one _ _) ?_ ?_ ?_ ?_; (rw [ints_length, List.length_take, HX128.out]; omega); (intro h; cases h); (unfold maxLen; omega); omega; (exact HZ0.out); intro A2 c2 w6 o2 g2 b2 n2; rw [Nat.zero_add] at o2 ⊢; rw [List.nil_append] at o2; have HO2 := Lib.hid o2; have HL6 := Lib.hid (show Later wy w6 from Below.trans HL0.out b2); have RY := Lib.hid (RYD.out.later HL6.out); have HZ6 := Lib.hid b2.size; clear o2 g2 b2 n2)
          | (refine step_append_rd (by rfl) (.tmp 98) (.tmp 101) 39 (by rfl) wy.heap.size 5 (.int .u8 0) 1 Tryd.underlying39 info_u8 rfl _ 128 (ints .u8 ((tagB g s a).take 128)) (by rfl) HO2.out _ (some ⟨gy, 0, none⟩) 0 0 (ints .u8 (y.drop 128)) (by rfl) RY.out.rd ?_ ?_ (ints_one _ _) ?_ ?_ ?_ ?_; (rw [ints_length, List.length_drop, HY128.out]); (intro h; cases h); (unfold maxLen; omega); omega; (exact HL6.out.size); intro A3 c3 w7 o3 g3 b3 n3; rw [show 128 + 0 = 128 by omega] at o3 ⊢; have HT7 := Lib.hid (show Has w7 A3 (ints .u8 tt) from by have h := Has.own o3; rw [← ints_snoc, ← HTT.out] at h; exact h); have HC7 := Lib.hid (own_cap o3); have HM7 := Lib.hid (own_capmax o3); have HL7 := Lib.hid (show Later wy w7 from Later.of (HL6.out.below.trans b3)); clear o3 g3 b3 n3))) | fail "no walk"
        all_goals
          have HTKK := Lib.hid (tagTake_any g s A3 128 c3 tt w7 hg hsq HTL.out.symm HT7.out HT256.out (by rw [HTL.out]; decide) HC7.out HM7.out (HS.out.later (HLY.out.trans HL7.out)))
          rw [HTK.out] at HTKK
          clear OWN RX HZ0 HL0
          go_wp2_with fail
          by_cases he : tt = tagB g s a
          · rw [if_pos he] at HTKK
            refine HTKK.out.mono ?_
            rintro e w8 ⟨Z, cz, rfl, hz8, l8⟩
            have HL8 := Lib.hid (HLY.out.trans (HL7.out.trans l8))
            have hl1 : ((some a : Option (List Nat)).getD []).length = n := HN.out.symm
            have hl2 : (some a : Option (List Nat)).isSome = true := rfl
            rw [hl1, hl2]
            have cv1 := conv_str A3 128 c3 tt HTL.out.symm w8 _ (HT7.out.later l8)
            have cv2 := conv_str (some ⟨gx, 0, none⟩) 128 cx (tagB g s a) HX128.out.symm w8 _ (HXY.out.later (HL7.out.trans l8))
            have cv3 := conv_str Z n cz a HN.out w8 _ (show Has w8 Z (ints .u8 a) from hz8)
            have cv4 := conv_str A n c a HN.out w8 _ (HR.out.later HL8.out)
            rw [he] at cv1
            obtain ⟨S1, hS1⟩ : ∃ S, S = bstr (tagB g s a) := ⟨_, rfl⟩
            obtain ⟨S2, hS2⟩ : ∃ S, S = bstr a := ⟨_, rfl⟩
            rw [← hS1] at cv1 cv2
            rw [← hS2] at cv3 cv4
            have hs1 : (S1.toList == S1.toList) = true := by simp
            have hs2 : (S2.toList == S2.toList) = true := by simp
            clear hl1 hl2 hz8 l8 hS1 hS2 he HTKK
            go_wp2_with fail
            go_ret
            exact ⟨rfl, HL8.out⟩
          · rw [if_neg he] at HTKK
            refine HTKK.out.mono ?_
            rintro e w8 ⟨Z, cz, rfl, _, l8⟩
            have HL8 := Lib.hid (HLY.out.trans (HL7.out.trans l8))
            have hl1 : ((none : Option (List Nat)).getD []).length = 0 := rfl
            have hl2 : (none : Option (List Nat)).isSome = false := rfl
            rw [hl1, hl2]
            have cv1 := conv_str A3 128 c3 tt HTL.out.symm w8 _ (HT7.out.later l8)
            have cv2 := conv_str (some ⟨gx, 0, none⟩) 128 cx (tagB g s a) HX128.out.symm w8 _ (HXY.out.later (HL7.out.trans l8))
            have hss := bstr_ne HT256.out HX256.out he
            obtain ⟨S1, hS1⟩ : ∃ S, S = bstr tt := ⟨_, rfl⟩
            obtain ⟨S2, hS2⟩ : ∃ S, S = bstr (tagB g s a) := ⟨_, rfl⟩
            rw [← hS1] at cv1 hss
            rw [← hS2] at cv2 hss
            clear hl1 hl2 l8 hS1 hS2 he HTKK
            go_wp2_with fail
            go_ret
            exact ⟨rfl, HL8.out⟩
    · obtain ⟨gy, hgy⟩ : ∃ x, w3.heap.size = x := ⟨_, rfl⟩
      obtain ⟨wy, hwy⟩ : ∃ x, w3.alloc (.cells (madeCells #[.int .u8 0] 128) 5) = x := ⟨_, rfl⟩
      have hly := Later.new w3 (.cells (madeCells #[.int .u8 0] 128) 5)
      have hry := Row.made w3 5 .u8 128
      rw [hwy] at hly hry
      rw [hgy] at hry
      obtain ⟨cy, hcy⟩ : ∃ x : Nat, x = 128 := ⟨_, rfl⟩
      have HYY := Lib.hid (show Has wy (some ⟨gy, 0, none⟩) (ints .u8 y) from by rw [HY.out]; exact Has.row hry)
      have HCY := Lib.hid (show 128 ≤ cy by omega)
      have HCYM := Lib.hid (show cy ≤ 9223372036854775807 by omega)
      have HLY := Lib.hid (HL3.out.trans hly)
      have HXY := Lib.hid (HX3.out.later hly)
      have HC128 := Lib.hid hcy
      clear hly hry HL3 HX3 HZ3 HCZ HCZM hcy
      have hi1 : (0 : Int) ≤ (k : Int) := by omega
      have hi2 : (k : Int) ≤ 128 := by omega
      have hi3 : (k : Int) ≤ (cx : Int) := by have := HCX.out; omega
      have hi4 : (k : Int) ≤ (128 : Int) := by have := HCY.out; omega
      have hi5 : (128 : Int) ≤ (128 : Int) := by have := HCY.out; omega
      have hi6 : (128 : Int) - (k : Int) = ((128 - k : Nat) : Int) := by omega
      have hi7 : (128 : Int) - (k : Int) = ((128 - k : Nat) : Int) := by have := HCY.out; omega
      have L0 : Later wy (wy.alloc (.cells #[] 5)).drew := ((Later.refl wy).alloc _).drew
      have OWN := Lib.hid (show ((wy.alloc (.cells #[] 5)).drew).ownsRow wy.heap.size 5 1 (.slice (some ⟨wy.heap.size, 0, none⟩) 0 0) 0 [] from (Blk.new wy ([] : List Value).toArray 5 _ rfl).ownG (base := wy.heap.size) (size := 1) (n := 0) (Nat.le_refl _) rfl (by decide))
      have RX := Lib.hid (show Has _ (some ⟨gx, 0, none⟩) (ints .u8 ((tagB g s a).take k)) from by have h := (HXY.out.later L0).take k; rw [ints_take] at h; exact h)
      have HZ0 := Lib.hid L0.size
      have HL0 := Lib.hid L0
      clear L0
      by_cases hck : k < 128
      · have hcne : ¬ 128 = k := by omega
        have RYD := Lib.hid (show Has wy (some ⟨gy, k, none⟩) (ints .u8 (y.drop k)) from by have h := HYY.out.drop k; rw [Nat.zero_add] at h; simpa [ints, List.map_drop] using h)
        go_wp2_with fail
        first | (go_region_law (first
          | (refine step_append_rd (by rfl) (.tmp 94) (.tmp 97) 39 (by rfl) wy.heap.size 5 (.int .u8 0) 1 Tryd.underlying39 info_u8 rfl _ 0 [] (by rfl) OWN.out _ (some ⟨gx, 0, none⟩) k cx (ints .u8 ((tagB g s a).take k)) (by rfl) RX.out.rd ?_ ?_ (ints_one _ _) ?_ ?_ ?_ ?_; (rw [ints_length, List.length_take, HX128.out]; omega); (intro h; cases h); (unfold maxLen; omega); omega; (exact HZ0.out); intro A2 c2 w6 o2 g2 b2 n2; rw [Nat.zero_add] at o2 ⊢; rw [List.nil_append] at o2; have HO2 := Lib.hid o2; have HL6 := Lib.hid (show Later wy w6 from Below.trans HL0.out b2); have RY := Lib.hid (RYD.out.later HL6.out); have HZ6 := Lib.hid b2.size; clear o2 g2 b2 n2)
          | (refine step_append_rd (by rfl) (.tmp 98) (.tmp 101) 39 (by rfl) wy.heap.size 5 (.int .u8 0) 1 Tryd.underlying39 info_u8 rfl _ k (ints .u8 ((tagB g s a).take k)) (by rfl) HO2.out _ (some ⟨gy, k, none⟩) (128 - k) (128 - k) (ints .u8 (y.drop k)) (by rfl) RY.out.rd ?_ ?_ (ints_one _ _) ?_ ?_ ?_ ?_; (rw [ints_length, List.length_drop, HY128.out]); (intro h; cases h); (unfold maxLen; omega); omega; (exact HL6.out.size); intro A3 c3 w7 o3 g3 b3 n3; rw [show k + (128 - k) = 128 by omega] at o3 ⊢; have HT7 := Lib.hid (show Has w7 A3 (ints .u8 tt) from by have h := Has.own o3; rw [← ints_snoc, ← HTT.out] at h; exact h); have HC7 := Lib.hid (own_cap o3); have HM7 := Lib.hid (own_capmax o3); have HL7 := Lib.hid (show Later wy w7 from Later.of (HL6.out.below.trans b3)); clear o3 g3 b3 n3))) | fail "no walk"
        all_goals
          have HTKK := Lib.hid (tagTake_any g s A3 128 c3 tt w7 hg hsq HTL.out.symm HT7.out HT256.out (by rw [HTL.out]; decide) HC7.out HM7.out (HS.out.later (HLY.out.trans HL7.out)))
          rw [HTK.out] at HTKK
          clear OWN RX HZ0 HL0
          go_wp2_with fail
          by_cases he : tt = tagB g s a
          · rw [if_pos he] at HTKK
            refine HTKK.out.mono ?_
            rintro e w8 ⟨Z, cz, rfl, hz8, l8⟩
            have HL8 := Lib.hid (HLY.out.trans (HL7.out.trans l8))
            have hl1 : ((some a : Option (List Nat)).getD []).length = n := HN.out.symm
            have hl2 : (some a : Option (List Nat)).isSome = true := rfl
            rw [hl1, hl2]
            have cv1 := conv_str A3 128 c3 tt HTL.out.symm w8 _ (HT7.out.later l8)
            have cv2 := conv_str (some ⟨gx, 0, none⟩) 128 cx (tagB g s a) HX128.out.symm w8 _ (HXY.out.later (HL7.out.trans l8))
            have cv3 := conv_str Z n cz a HN.out w8 _ (show Has w8 Z (ints .u8 a) from hz8)
            have cv4 := conv_str A n c a HN.out w8 _ (HR.out.later HL8.out)
            rw [he] at cv1
            obtain ⟨S1, hS1⟩ : ∃ S, S = bstr (tagB g s a) := ⟨_, rfl⟩
            obtain ⟨S2, hS2⟩ : ∃ S, S = bstr a := ⟨_, rfl⟩
            rw [← hS1] at cv1 cv2
            rw [← hS2] at cv3 cv4
            have hs1 : (S1.toList == S1.toList) = true := by simp
            have hs2 : (S2.toList == S2.toList) = true := by simp
            clear hl1 hl2 hz8 l8 hS1 hS2 he HTKK
            go_wp2_with fail
            go_ret
            exact ⟨rfl, HL8.out⟩
          · rw [if_neg he] at HTKK
            refine HTKK.out.mono ?_
            rintro e w8 ⟨Z, cz, rfl, _, l8⟩
            have HL8 := Lib.hid (HLY.out.trans (HL7.out.trans l8))
            have hl1 : ((none : Option (List Nat)).getD []).length = 0 := rfl
            have hl2 : (none : Option (List Nat)).isSome = false := rfl
            rw [hl1, hl2]
            have cv1 := conv_str A3 128 c3 tt HTL.out.symm w8 _ (HT7.out.later l8)
            have cv2 := conv_str (some ⟨gx, 0, none⟩) 128 cx (tagB g s a) HX128.out.symm w8 _ (HXY.out.later (HL7.out.trans l8))
            have hss := bstr_ne HT256.out HX256.out he
            obtain ⟨S1, hS1⟩ : ∃ S, S = bstr tt := ⟨_, rfl⟩
            obtain ⟨S2, hS2⟩ : ∃ S, S = bstr (tagB g s a) := ⟨_, rfl⟩
            rw [← hS1] at cv1 hss
            rw [← hS2] at cv2 hss
            clear hl1 hl2 l8 hS1 hS2 he HTKK
            go_wp2_with fail
            go_ret
            exact ⟨rfl, HL8.out⟩
      · obtain rfl : k = 128 := by have := HCY.out; omega
        have hcz : 128 = 128 := by have := HCY.out; omega
        have hk2 : (at_ : Int) % 129 = 128 := hkk
        have hk3 : Int.tmod (at_ : Int) 129 = 128 := hkt
        have hj1 : (128 : Int) ≤ (cx : Int) := hi3
        have hj2 : 128 ≤ cx := HCX.out
        clear hkk hkt hi1 hi2 hi3 hi4 hi5 hi6 hi7 hck
        have RYD := Lib.hid (show Has wy (some ⟨gy, 0, none⟩) (ints .u8 (y.drop 128)) from by rw [List.drop_of_length_le (by rw [HY128.out]; exact Nat.le_refl _)]; exact .inl rfl)
        clear hcz
        go_wp2_with fail
        first | (go_region_law (first
          | (refine step_append_rd (by rfl) (.tmp 94) (.tmp 97) 39 (by rfl) wy.heap.size 5 (.int .u8 0) 1 Tryd.underlying39 info_u8 rfl _ 0 [] (by rfl) OWN.out _ (some ⟨gx, 0, none⟩) 128 cx (ints .u8 ((tagB g s a).take 128)) (by rfl) RX.out.rd ?_ ?_ (ints_one _ _) ?_ ?_ ?_ ?_; (rw [ints_length, List.length_take, HX128.out]; omega); (intro h; cases h); (unfold maxLen; omega); omega; (exact HZ0.out); intro A2 c2 w6 o2 g2 b2 n2; rw [Nat.zero_add] at o2 ⊢; rw [List.nil_append] at o2; have HO2 := Lib.hid o2; have HL6 := Lib.hid (show Later wy w6 from Below.trans HL0.out b2); have RY := Lib.hid (RYD.out.later HL6.out); have HZ6 := Lib.hid b2.size; clear o2 g2 b2 n2)
          | (refine step_append_rd (by rfl) (.tmp 98) (.tmp 101) 39 (by rfl) wy.heap.size 5 (.int .u8 0) 1 Tryd.underlying39 info_u8 rfl _ 128 (ints .u8 ((tagB g s a).take 128)) (by rfl) HO2.out _ (some ⟨gy, 0, none⟩) 0 0 (ints .u8 (y.drop 128)) (by rfl) RY.out.rd ?_ ?_ (ints_one _ _) ?_ ?_ ?_ ?_; (rw [ints_length, List.length_drop, HY128.out]); (intro h; cases h); (unfold maxLen; omega); omega; (exact HL6.out.size); intro A3 c3 w7 o3 g3 b3 n3; rw [show 128 + 0 = 128 by omega] at o3 ⊢; have HT7 := Lib.hid (show Has w7 A3 (ints .u8 tt) from by have h := Has.own o3; rw [← ints_snoc, ← HTT.out] at h; exact h); have HC7 := Lib.hid (own_cap o3); have HM7 := Lib.hid (own_capmax o3); have HL7 := Lib.hid (show Later wy w7 from Later.of (HL6.out.below.trans b3)); clear o3 g3 b3 n3))) | fail "no walk"
        all_goals
          have HTKK := Lib.hid (tagTake_any g s A3 128 c3 tt w7 hg hsq HTL.out.symm HT7.out HT256.out (by rw [HTL.out]; decide) HC7.out HM7.out (HS.out.later (HLY.out.trans HL7.out)))
          rw [HTK.out] at HTKK
          clear OWN RX HZ0 HL0
          go_wp2_with fail
          by_cases he : tt = tagB g s a
          · rw [if_pos he] at HTKK
            refine HTKK.out.mono ?_
            rintro e w8 ⟨Z, cz, rfl, hz8, l8⟩
            have HL8 := Lib.hid (HLY.out.trans (HL7.out.trans l8))
            have hl1 : ((some a : Option (List Nat)).getD []).length = n := HN.out.symm
            have hl2 : (some a : Option (List Nat)).isSome = true := rfl
            rw [hl1, hl2]
            have cv1 := conv_str A3 128 c3 tt HTL.out.symm w8 _ (HT7.out.later l8)
            have cv2 := conv_str (some ⟨gx, 0, none⟩) 128 cx (tagB g s a) HX128.out.symm w8 _ (HXY.out.later (HL7.out.trans l8))
            have cv3 := conv_str Z n cz a HN.out w8 _ (show Has w8 Z (ints .u8 a) from hz8)
            have cv4 := conv_str A n c a HN.out w8 _ (HR.out.later HL8.out)
            rw [he] at cv1
            obtain ⟨S1, hS1⟩ : ∃ S, S = bstr (tagB g s a) := ⟨_, rfl⟩
            obtain ⟨S2, hS2⟩ : ∃ S, S = bstr a := ⟨_, rfl⟩
            rw [← hS1] at cv1 cv2
            rw [← hS2] at cv3 cv4
            have hs1 : (S1.toList == S1.toList) = true := by simp
            have hs2 : (S2.toList == S2.toList) = true := by simp
            clear hl1 hl2 hz8 l8 hS1 hS2 he HTKK
            go_wp2_with fail
            go_ret
            exact ⟨rfl, HL8.out⟩
          · rw [if_neg he] at HTKK
            refine HTKK.out.mono ?_
            rintro e w8 ⟨Z, cz, rfl, _, l8⟩
            have HL8 := Lib.hid (HLY.out.trans (HL7.out.trans l8))
            have hl1 : ((none : Option (List Nat)).getD []).length = 0 := rfl
            have hl2 : (none : Option (List Nat)).isSome = false := rfl
            rw [hl1, hl2]
            have cv1 := conv_str A3 128 c3 tt HTL.out.symm w8 _ (HT7.out.later l8)
            have cv2 := conv_str (some ⟨gx, 0, none⟩) 128 cx (tagB g s a) HX128.out.symm w8 _ (HXY.out.later (HL7.out.trans l8))
            have hss := bstr_ne HT256.out HX256.out he
            obtain ⟨S1, hS1⟩ : ∃ S, S = bstr tt := ⟨_, rfl⟩
            obtain ⟨S2, hS2⟩ : ∃ S, S = bstr (tagB g s a) := ⟨_, rfl⟩
            rw [← hS1] at cv1 hss
            rw [← hS2] at cv2 hss
            clear hl1 hl2 l8 hS1 hS2 he HTKK
            go_wp2_with fail
            go_ret
            exact ⟨rfl, HL8.out⟩
    · obtain ⟨wy, hwy⟩ : ∃ x, x = w3 := ⟨_, rfl⟩
      rw [← hwy] at HL3 HX3 HZ3 ⊢
      obtain ⟨gy, hgy⟩ : ∃ x, x = gz := ⟨_, rfl⟩
      obtain ⟨cy, hcy⟩ : ∃ x, x = cz := ⟨_, rfl⟩
      rw [← hgy] at HZ3 ⊢
      rw [← hcy] at HCZ HCZM ⊢
      have HYY := Lib.hid (show Has wy (some ⟨gy, 0, none⟩) (ints .u8 y) from by rw [HY.out]; exact HZ3.out)
      have HCY := Lib.hid (show 128 ≤ cy from HCZ.out)
      have HCYM := Lib.hid (show cy ≤ 9223372036854775807 from HCZM.out)
      have HLY := Lib.hid HL3.out
      have HXY := Lib.hid HX3.out
      clear hwy hgy hcy HL3 HX3 HZ3 HCZ HCZM hmk
      have hi1 : (0 : Int) ≤ (k : Int) := by omega
      have hi2 : (k : Int) ≤ 128 := by omega
      have hi3 : (k : Int) ≤ (cx : Int) := by have := HCX.out; omega
      have hi4 : (k : Int) ≤ (cy : Int) := by have := HCY.out; omega
      have hi5 : (128 : Int) ≤ (cy : Int) := by have := HCY.out; omega
      have hi6 : (128 : Int) - (k : Int) = ((128 - k : Nat) : Int) := by omega
      have hi7 : (cy : Int) - (k : Int) = ((cy - k : Nat) : Int) := by have := HCY.out; omega
      have L0 : Later wy (wy.alloc (.cells #[] 5)).drew := ((Later.refl wy).alloc _).drew
      have OWN := Lib.hid (show ((wy.alloc (.cells #[] 5)).drew).ownsRow wy.heap.size 5 1 (.slice (some ⟨wy.heap.size, 0, none⟩) 0 0) 0 [] from (Blk.new wy ([] : List Value).toArray 5 _ rfl).ownG (base := wy.heap.size) (size := 1) (n := 0) (Nat.le_refl _) rfl (by decide))
      have RX := Lib.hid (show Has _ (some ⟨gx, 0, none⟩) (ints .u8 ((tagB g s a).take k)) from by have h := (HXY.out.later L0).take k; rw [ints_take] at h; exact h)
      have HZ0 := Lib.hid L0.size
      have HL0 := Lib.hid L0
      clear L0
      by_cases hck : k < cy
      · have hcne : ¬ cy = k := by omega
        have RYD := Lib.hid (show Has wy (some ⟨gy, k, none⟩) (ints .u8 (y.drop k)) from by have h := HYY.out.drop k; rw [Nat.zero_add] at h; simpa [ints, List.map_drop] using h)
        go_wp2_with fail
        first | (go_region_law (first
          | (refine step_append_rd (by rfl) (.tmp 94) (.tmp 97) 39 (by rfl) wy.heap.size 5 (.int .u8 0) 1 Tryd.underlying39 info_u8 rfl _ 0 [] (by rfl) OWN.out _ (some ⟨gx, 0, none⟩) k cx (ints .u8 ((tagB g s a).take k)) (by rfl) RX.out.rd ?_ ?_ (ints_one _ _) ?_ ?_ ?_ ?_; (rw [ints_length, List.length_take, HX128.out]; omega); (intro h; cases h); (unfold maxLen; omega); omega; (exact HZ0.out); intro A2 c2 w6 o2 g2 b2 n2; rw [Nat.zero_add] at o2 ⊢; rw [List.nil_append] at o2; have HO2 := Lib.hid o2; have HL6 := Lib.hid (show Later wy w6 from Below.trans HL0.out b2); have RY := Lib.hid (RYD.out.later HL6.out); have HZ6 := Lib.hid b2.size; clear o2 g2 b2 n2)
          | (refine step_append_rd (by rfl) (.tmp 98) (.tmp 101) 39 (by rfl) wy.heap.size 5 (.int .u8 0) 1 Tryd.underlying39 info_u8 rfl _ k (ints .u8 ((tagB g s a).take k)) (by rfl) HO2.out _ (some ⟨gy, k, none⟩) (128 - k) (cy - k) (ints .u8 (y.drop k)) (by rfl) RY.out.rd ?_ ?_ (ints_one _ _) ?_ ?_ ?_ ?_; (rw [ints_length, List.length_drop, HY128.out]); (intro h; cases h); (unfold maxLen; omega); omega; (exact HL6.out.size); intro A3 c3 w7 o3 g3 b3 n3; rw [show k + (128 - k) = 128 by omega] at o3 ⊢; have HT7 := Lib.hid (show Has w7 A3 (ints .u8 tt) from by have h := Has.own o3; rw [← ints_snoc, ← HTT.out] at h; exact h); have HC7 := Lib.hid (own_cap o3); have HM7 := Lib.hid (own_capmax o3); have HL7 := Lib.hid (show Later wy w7 from Later.of (HL6.out.below.trans b3)); clear o3 g3 b3 n3))) | fail "no walk"
        all_goals
          have HTKK := Lib.hid (tagTake_any g s A3 128 c3 tt w7 hg hsq HTL.out.symm HT7.out HT256.out (by rw [HTL.out]; decide) HC7.out HM7.out (HS.out.later (HLY.out.trans HL7.out)))
          rw [HTK.out] at HTKK
          clear OWN RX HZ0 HL0
          go_wp2_with fail
          by_cases he : tt = tagB g s a
          · rw [if_pos he] at HTKK
            refine HTKK.out.mono ?_
            rintro e w8 ⟨Z, cz, rfl, hz8, l8⟩
            have HL8 := Lib.hid (HLY.out.trans (HL7.out.trans l8))
            have hl1 : ((some a : Option (List Nat)).getD []).length = n := HN.out.symm
            have hl2 : (some a : Option (List Nat)).isSome = true := rfl
            rw [hl1, hl2]
            have cv1 := conv_str A3 128 c3 tt HTL.out.symm w8 _ (HT7.out.later l8)
            have cv2 := conv_str (some ⟨gx, 0, none⟩) 128 cx (tagB g s a) HX128.out.symm w8 _ (HXY.out.later (HL7.out.trans l8))
            have cv3 := conv_str Z n cz a HN.out w8 _ (show Has w8 Z (ints .u8 a) from hz8)
            have cv4 := conv_str A n c a HN.out w8 _ (HR.out.later HL8.out)
            rw [he] at cv1
            obtain ⟨S1, hS1⟩ : ∃ S, S = bstr (tagB g s a) := ⟨_, rfl⟩
            obtain ⟨S2, hS2⟩ : ∃ S, S = bstr a := ⟨_, rfl⟩
            rw [← hS1] at cv1 cv2
            rw [← hS2] at cv3 cv4
            have hs1 : (S1.toList == S1.toList) = true := by simp
            have hs2 : (S2.toList == S2.toList) = true := by simp
            clear hl1 hl2 hz8 l8 hS1 hS2 he HTKK
            go_wp2_with fail
            go_ret
            exact ⟨rfl, HL8.out⟩
          · rw [if_neg he] at HTKK
            refine HTKK.out.mono ?_
            rintro e w8 ⟨Z, cz, rfl, _, l8⟩
            have HL8 := Lib.hid (HLY.out.trans (HL7.out.trans l8))
            have hl1 : ((none : Option (List Nat)).getD []).length = 0 := rfl
            have hl2 : (none : Option (List Nat)).isSome = false := rfl
            rw [hl1, hl2]
            have cv1 := conv_str A3 128 c3 tt HTL.out.symm w8 _ (HT7.out.later l8)
            have cv2 := conv_str (some ⟨gx, 0, none⟩) 128 cx (tagB g s a) HX128.out.symm w8 _ (HXY.out.later (HL7.out.trans l8))
            have hss := bstr_ne HT256.out HX256.out he
            obtain ⟨S1, hS1⟩ : ∃ S, S = bstr tt := ⟨_, rfl⟩
            obtain ⟨S2, hS2⟩ : ∃ S, S = bstr (tagB g s a) := ⟨_, rfl⟩
            rw [← hS1] at cv1 hss
            rw [← hS2] at cv2 hss
            clear hl1 hl2 l8 hS1 hS2 he HTKK
            go_wp2_with fail
            go_ret
            exact ⟨rfl, HL8.out⟩
      · obtain rfl : k = 128 := by have := HCY.out; omega
        have hcz : cy = 128 := by have := HCY.out; omega
        have hk2 : (at_ : Int) % 129 = 128 := hkk
        have hk3 : Int.tmod (at_ : Int) 129 = 128 := hkt
        have hj1 : (128 : Int) ≤ (cx : Int) := hi3
        have hj2 : 128 ≤ cx := HCX.out
        clear hkk hkt hi1 hi2 hi3 hi4 hi5 hi6 hi7 hck
        have RYD := Lib.hid (show Has wy (some ⟨gy, 0, none⟩) (ints .u8 (y.drop 128)) from by rw [List.drop_of_length_le (by rw [HY128.out]; exact Nat.le_refl _)]; exact .inl rfl)
        subst hcz
        go_wp2_with fail
        first | (go_region_law (first
          | (refine step_append_rd (by rfl) (.tmp 94) (.tmp 97) 39 (by rfl) wy.heap.size 5 (.int .u8 0) 1 Tryd.underlying39 info_u8 rfl _ 0 [] (by rfl) OWN.out _ (some ⟨gx, 0, none⟩) 128 cx (ints .u8 ((tagB g s a).take 128)) (by rfl) RX.out.rd ?_ ?_ (ints_one _ _) ?_ ?_ ?_ ?_; (rw [ints_length, List.length_take, HX128.out]; omega); (intro h; cases h); (unfold maxLen; omega); omega; (exact HZ0.out); intro A2 c2 w6 o2 g2 b2 n2; rw [Nat.zero_add] at o2 ⊢; rw [List.nil_append] at o2; have HO2 := Lib.hid o2; have HL6 := Lib.hid (show Later wy w6 from Below.trans HL0.out b2); have RY := Lib.hid (RYD.out.later HL6.out); have HZ6 := Lib.hid b2.size; clear o2 g2 b2 n2)
          | (refine step_append_rd (by rfl) (.tmp 98) (.tmp 101) 39 (by rfl) wy.heap.size 5 (.int .u8 0) 1 Tryd.underlying39 info_u8 rfl _ 128 (ints .u8 ((tagB g s a).take 128)) (by rfl) HO2.out _ (some ⟨gy, 0, none⟩) 0 0 (ints .u8 (y.drop 128)) (by rfl) RY.out.rd ?_ ?_ (ints_one _ _) ?_ ?_ ?_ ?_; (rw [ints_length, List.length_drop, HY128.out]); (intro h; cases h); (unfold maxLen; omega); omega; (exact HL6.out.size); intro A3 c3 w7 o3 g3 b3 n3; rw [show 128 + 0 = 128 by omega] at o3 ⊢; have HT7 := Lib.hid (show Has w7 A3 (ints .u8 tt) from by have h := Has.own o3; rw [← ints_snoc, ← HTT.out] at h; exact h); have HC7 := Lib.hid (own_cap o3); have HM7 := Lib.hid (own_capmax o3); have HL7 := Lib.hid (show Later wy w7 from Later.of (HL6.out.below.trans b3)); clear o3 g3 b3 n3))) | fail "no walk"
        all_goals
          have HTKK := Lib.hid (tagTake_any g s A3 128 c3 tt w7 hg hsq HTL.out.symm HT7.out HT256.out (by rw [HTL.out]; decide) HC7.out HM7.out (HS.out.later (HLY.out.trans HL7.out)))
          rw [HTK.out] at HTKK
          clear OWN RX HZ0 HL0
          go_wp2_with fail
          by_cases he : tt = tagB g s a
          · rw [if_pos he] at HTKK
            refine HTKK.out.mono ?_
            rintro e w8 ⟨Z, cz, rfl, hz8, l8⟩
            have HL8 := Lib.hid (HLY.out.trans (HL7.out.trans l8))
            have hl1 : ((some a : Option (List Nat)).getD []).length = n := HN.out.symm
            have hl2 : (some a : Option (List Nat)).isSome = true := rfl
            rw [hl1, hl2]
            have cv1 := conv_str A3 128 c3 tt HTL.out.symm w8 _ (HT7.out.later l8)
            have cv2 := conv_str (some ⟨gx, 0, none⟩) 128 cx (tagB g s a) HX128.out.symm w8 _ (HXY.out.later (HL7.out.trans l8))
            have cv3 := conv_str Z n cz a HN.out w8 _ (show Has w8 Z (ints .u8 a) from hz8)
            have cv4 := conv_str A n c a HN.out w8 _ (HR.out.later HL8.out)
            rw [he] at cv1
            obtain ⟨S1, hS1⟩ : ∃ S, S = bstr (tagB g s a) := ⟨_, rfl⟩
            obtain ⟨S2, hS2⟩ : ∃ S, S = bstr a := ⟨_, rfl⟩
            rw [← hS1] at cv1 cv2
            rw [← hS2] at cv3 cv4
            have hs1 : (S1.toList == S1.toList) = true := by simp
            have hs2 : (S2.toList == S2.toList) = true := by simp
            clear hl1 hl2 hz8 l8 hS1 hS2 he HTKK
            go_wp2_with fail
            go_ret
            exact ⟨rfl, HL8.out⟩
          · rw [if_neg he] at HTKK
            refine HTKK.out.mono ?_
            rintro e w8 ⟨Z, cz, rfl, _, l8⟩
            have HL8 := Lib.hid (HLY.out.trans (HL7.out.trans l8))
            have hl1 : ((none : Option (List Nat)).getD []).length = 0 := rfl
            have hl2 : (none : Option (List Nat)).isSome = false := rfl
            rw [hl1, hl2]
            have cv1 := conv_str A3 128 c3 tt HTL.out.symm w8 _ (HT7.out.later l8)
            have cv2 := conv_str (some ⟨gx, 0, none⟩) 128 cx (tagB g s a) HX128.out.symm w8 _ (HXY.out.later (HL7.out.trans l8))
            have hss := bstr_ne HT256.out HX256.out he
            obtain ⟨S1, hS1⟩ : ∃ S, S = bstr tt := ⟨_, rfl⟩
            obtain ⟨S2, hS2⟩ : ∃ S, S = bstr (tagB g s a) := ⟨_, rfl⟩
            rw [← hS1] at cv1 hss
            rw [← hS2] at cv2 hss
            clear hl1 hl2 l8 hS1 hS2 he HTKK
            go_wp2_with fail
            go_ret
            exact ⟨rfl, HL8.out⟩
    · obtain ⟨gy, hgy⟩ : ∃ x, w3.heap.size = x := ⟨_, rfl⟩
      obtain ⟨wy, hwy⟩ : ∃ x, w3.alloc (.cells (madeCells #[.int .u8 0] 128) 5) = x := ⟨_, rfl⟩
      have hly := Later.new w3 (.cells (madeCells #[.int .u8 0] 128) 5)
      have hry := Row.made w3 5 .u8 128
      rw [hwy] at hly hry
      rw [hgy] at hry
      obtain ⟨cy, hcy⟩ : ∃ x : Nat, x = 128 := ⟨_, rfl⟩
      have HYY := Lib.hid (show Has wy (some ⟨gy, 0, none⟩) (ints .u8 y) from by rw [HY.out]; exact Has.row hry)
      have HCY := Lib.hid (show 128 ≤ cy by omega)
      have HCYM := Lib.hid (show cy ≤ 9223372036854775807 by omega)
      have HLY := Lib.hid (HL3.out.trans hly)
      have HXY := Lib.hid (HX3.out.later hly)
      have HC128 := Lib.hid hcy
      clear hly hry HL3 HX3 HZ3 HCZ HCZM hcy
      have hi1 : (0 : Int) ≤ (k : Int) := by omega
      have hi2 : (k : Int) ≤ 128 := by omega
      have hi3 : (k : Int) ≤ (cx : Int) := by have := HCX.out; omega
      have hi4 : (k : Int) ≤ (128 : Int) := by have := HCY.out; omega
      have hi5 : (128 : Int) ≤ (128 : Int) := by have := HCY.out; omega
      have hi6 : (128 : Int) - (k : Int) = ((128 - k : Nat) : Int) := by omega
      have hi7 : (128 : Int) - (k : Int) = ((128 - k : Nat) : Int) := by have := HCY.out; omega
      have L0 : Later wy (wy.alloc (.cells #[] 5)).drew := ((Later.refl wy).alloc _).drew
      have OWN := Lib.hid (show ((wy.alloc (.cells #[] 5)).drew).ownsRow wy.heap.size 5 1 (.slice (some ⟨wy.heap.size, 0, none⟩) 0 0) 0 [] from (Blk.new wy ([] : List Value).toArray 5 _ rfl).ownG (base := wy.heap.size) (size := 1) (n := 0) (Nat.le_refl _) rfl (by decide))
      have RX := Lib.hid (show Has _ (some ⟨gx, 0, none⟩) (ints .u8 ((tagB g s a).take k)) from by have h := (HXY.out.later L0).take k; rw [ints_take] at h; exact h)
      have HZ0 := Lib.hid L0.size
      have HL0 := Lib.hid L0
      clear L0
      by_cases hck : k < 128
      · have hcne : ¬ 128 = k := by omega
        have RYD := Lib.hid (show Has wy (some ⟨gy, k, none⟩) (ints .u8 (y.drop k)) from by have h := HYY.out.drop k; rw [Nat.zero_add] at h; simpa [ints, List.map_drop] using h)
        go_wp2_with fail
        first | (go_region_law (first
          | (refine step_append_rd (by rfl) (.tmp 94) (.tmp 97) 39 (by rfl) wy.heap.size 5 (.int .u8 0) 1 Tryd.underlying39 info_u8 rfl _ 0 [] (by rfl) OWN.out _ (some ⟨gx, 0, none⟩) k cx (ints .u8 ((tagB g s a).take k)) (by rfl) RX.out.rd ?_ ?_ (ints_one _ _) ?_ ?_ ?_ ?_; (rw [ints_length, List.length_take, HX128.out]; omega); (intro h; cases h); (unfold maxLen; omega); omega; (exact HZ0.out); intro A2 c2 w6 o2 g2 b2 n2; rw [Nat.zero_add] at o2 ⊢; rw [List.nil_append] at o2; have HO2 := Lib.hid o2; have HL6 := Lib.hid (show Later wy w6 from Below.trans HL0.out b2); have RY := Lib.hid (RYD.out.later HL6.out); have HZ6 := Lib.hid b2.size; clear o2 g2 b2 n2)
          | (refine step_append_rd (by rfl) (.tmp 98) (.tmp 101) 39 (by rfl) wy.heap.size 5 (.int .u8 0) 1 Tryd.underlying39 info_u8 rfl _ k (ints .u8 ((tagB g s a).take k)) (by rfl) HO2.out _ (some ⟨gy, k, none⟩) (128 - k) (128 - k) (ints .u8 (y.drop k)) (by rfl) RY.out.rd ?_ ?_ (ints_one _ _) ?_ ?_ ?_ ?_; (rw [ints_length, List.length_drop, HY128.out]); (intro h; cases h); (unfold maxLen; omega); omega; (exact HL6.out.size); intro A3 c3 w7 o3 g3 b3 n3; rw [show k + (128 - k) = 128 by omega] at o3 ⊢; have HT7 := Lib.hid (show Has w7 A3 (ints .u8 tt) from by have h := Has.own o3; rw [← ints_snoc, ← HTT.out] at h; exact h); have HC7 := Lib.hid (own_cap o3); have HM7 := Lib.hid (own_capmax o3); have HL7 := Lib.hid (show Later wy w7 from Later.of (HL6.out.below.trans b3)); clear o3 g3 b3 n3))) | fail "no walk"
        all_goals
          have HTKK := Lib.hid (tagTake_any g s A3 128 c3 tt w7 hg hsq HTL.out.symm HT7.out HT256.out (by rw [HTL.out]; decide) HC7.out HM7.out (HS.out.later (HLY.out.trans HL7.out)))
          rw [HTK.out] at HTKK
          clear OWN RX HZ0 HL0
          go_wp2_with fail
          by_cases he : tt = tagB g s a
          · rw [if_pos he] at HTKK
            refine HTKK.out.mono ?_
            rintro e w8 ⟨Z, cz, rfl, hz8, l8⟩
            have HL8 := Lib.hid (HLY.out.trans (HL7.out.trans l8))
            have hl1 : ((some a : Option (List Nat)).getD []).length = n := HN.out.symm
            have hl2 : (some a : Option (List Nat)).isSome = true := rfl
            rw [hl1, hl2]
            have cv1 := conv_str A3 128 c3 tt HTL.out.symm w8 _ (HT7.out.later l8)
            have cv2 := conv_str (some ⟨gx, 0, none⟩) 128 cx (tagB g s a) HX128.out.symm w8 _ (HXY.out.later (HL7.out.trans l8))
            have cv3 := conv_str Z n cz a HN.out w8 _ (show Has w8 Z (ints .u8 a) from hz8)
            have cv4 := conv_str A n c a HN.out w8 _ (HR.out.later HL8.out)
            rw [he] at cv1
            obtain ⟨S1, hS1⟩ : ∃ S, S = bstr (tagB g s a) := ⟨_, rfl⟩
            obtain ⟨S2, hS2⟩ : ∃ S, S = bstr a := ⟨_, rfl⟩
            rw [← hS1] at cv1 cv2
            rw [← hS2] at cv3 cv4
            have hs1 : (S1.toList == S1.toList) = true := by simp
            have hs2 : (S2.toList == S2.toList) = true := by simp
            clear hl1 hl2 hz8 l8 hS1 hS2 he HTKK
            go_wp2_with fail
            go_ret
            exact ⟨rfl, HL8.out⟩
          · rw [if_neg he] at HTKK
            refine HTKK.out.mono ?_
            rintro e w8 ⟨Z, cz, rfl, _, l8⟩
            have HL8 := Lib.hid (HLY.out.trans (HL7.out.trans l8))
            have hl1 : ((none : Option (List Nat)).getD []).length = 0 := rfl
            have hl2 : (none : Option (List Nat)).isSome = false := rfl
            rw [hl1, hl2]
            have cv1 := conv_str A3 128 c3 tt HTL.out.symm w8 _ (HT7.out.later l8)
            have cv2 := conv_str (some ⟨gx, 0, none⟩) 128 cx (tagB g s a) HX128.out.symm w8 _ (HXY.out.later (HL7.out.trans l8))
            have hss := bstr_ne HT256.out HX256.out he
            obtain ⟨S1, hS1⟩ : ∃ S, S = bstr tt := ⟨_, rfl⟩
            obtain ⟨S2, hS2⟩ : ∃ S, S = bstr (tagB g s a) := ⟨_, rfl⟩
            rw [← hS1] at cv1 hss
            rw [← hS2] at cv2 hss
            clear hl1 hl2 l8 hS1 hS2 he HTKK
            go_wp2_with fail
            go_ret
            exact ⟨rfl, HL8.out⟩
      · obtain rfl : k = 128 := by have := HCY.out; omega
        have hcz : 128 = 128 := by have := HCY.out; omega
        have hk2 : (at_ : Int) % 129 = 128 := hkk
        have hk3 : Int.tmod (at_ : Int) 129 = 128 := hkt
        have hj1 : (128 : Int) ≤ (cx : Int) := hi3
        have hj2 : 128 ≤ cx := HCX.out
        clear hkk hkt hi1 hi2 hi3 hi4 hi5 hi6 hi7 hck
        have RYD := Lib.hid (show Has wy (some ⟨gy, 0, none⟩) (ints .u8 (y.drop 128)) from by rw [List.drop_of_length_le (by rw [HY128.out]; exact Nat.le_refl _)]; exact .inl rfl)
        clear hcz
        go_wp2_with fail
        first | (go_region_law (first
          | (refine step_append_rd (by rfl) (.tmp 94) (.tmp 97) 39 (by rfl) wy.heap.size 5 (.int .u8 0) 1 Tryd.underlying39 info_u8 rfl _ 0 [] (by rfl) OWN.out _ (some ⟨gx, 0, none⟩) 128 cx (ints .u8 ((tagB g s a).take 128)) (by rfl) RX.out.rd ?_ ?_ (ints_one _ _) ?_ ?_ ?_ ?_; (rw [ints_length, List.length_take, HX128.out]; omega); (intro h; cases h); (unfold maxLen; omega); omega; (exact HZ0.out); intro A2 c2 w6 o2 g2 b2 n2; rw [Nat.zero_add] at o2 ⊢; rw [List.nil_append] at o2; have HO2 := Lib.hid o2; have HL6 := Lib.hid (show Later wy w6 from Below.trans HL0.out b2); have RY := Lib.hid (RYD.out.later HL6.out); have HZ6 := Lib.hid b2.size; clear o2 g2 b2 n2)
          | (refine step_append_rd (by rfl) (.tmp 98) (.tmp 101) 39 (by rfl) wy.heap.size 5 (.int .u8 0) 1 Tryd.underlying39 info_u8 rfl _ 128 (ints .u8 ((tagB g s a).take 128)) (by rfl) HO2.out _ (some ⟨gy, 0, none⟩) 0 0 (ints .u8 (y.drop 128)) (by rfl) RY.out.rd ?_ ?_ (ints_one _ _) ?_ ?_ ?_ ?_; (rw [ints_length, List.length_drop, HY128.out]); (intro h; cases h); (unfold maxLen; omega); omega; (exact HL6.out.size); intro A3 c3 w7 o3 g3 b3 n3; rw [show 128 + 0 = 128 by omega] at o3 ⊢; have HT7 := Lib.hid (show Has w7 A3 (ints .u8 tt) from by have h := Has.own o3; rw [← ints_snoc, ← HTT.out] at h; exact h); have HC7 := Lib.hid (own_cap o3); have HM7 := Lib.hid (own_capmax o3); have HL7 := Lib.hid (show Later wy w7 from Later.of (HL6.out.below.trans b3)); clear o3 g3 b3 n3))) | fail "no walk"
        all_goals
          have HTKK := Lib.hid (tagTake_any g s A3 128 c3 tt w7 hg hsq HTL.out.symm HT7.out HT256.out (by rw [HTL.out]; decide) HC7.out HM7.out (HS.out.later (HLY.out.trans HL7.out)))
          rw [HTK.out] at HTKK
          clear OWN RX HZ0 HL0
          go_wp2_with fail
          by_cases he : tt = tagB g s a
          · rw [if_pos he] at HTKK
            refine HTKK.out.mono ?_
            rintro e w8 ⟨Z, cz, rfl, hz8, l8⟩
            have HL8 := Lib.hid (HLY.out.trans (HL7.out.trans l8))
            have hl1 : ((some a : Option (List Nat)).getD []).length = n := HN.out.symm
            have hl2 : (some a : Option (List Nat)).isSome = true := rfl
            rw [hl1, hl2]
            have cv1 := conv_str A3 128 c3 tt HTL.out.symm w8 _ (HT7.out.later l8)
            have cv2 := conv_str (some ⟨gx, 0, none⟩) 128 cx (tagB g s a) HX128.out.symm w8 _ (HXY.out.later (HL7.out.trans l8))
            have cv3 := conv_str Z n cz a HN.out w8 _ (show Has w8 Z (ints .u8 a) from hz8)
            have cv4 := conv_str A n c a HN.out w8 _ (HR.out.later HL8.out)
            rw [he] at cv1
            obtain ⟨S1, hS1⟩ : ∃ S, S = bstr (tagB g s a) := ⟨_, rfl⟩
            obtain ⟨S2, hS2⟩ : ∃ S, S = bstr a := ⟨_, rfl⟩
            rw [← hS1] at cv1 cv2
            rw [← hS2] at cv3 cv4
            have hs1 : (S1.toList == S1.toList) = true := by simp
            have hs2 : (S2.toList == S2.toList) = true := by simp
            clear hl1 hl2 hz8 l8 hS1 hS2 he HTKK
            go_wp2_with fail
            go_ret
            exact ⟨rfl, HL8.out⟩
          · rw [if_neg he] at HTKK
            refine HTKK.out.mono ?_
            rintro e w8 ⟨Z, cz, rfl, _, l8⟩
            have HL8 := Lib.hid (HLY.out.trans (HL7.out.trans l8))
            have hl1 : ((none : Option (List Nat)).getD []).length = 0 := rfl
            have hl2 : (none : Option (List Nat)).isSome = false := rfl
            rw [hl1, hl2]
            have cv1 := conv_str A3 128 c3 tt HTL.out.symm w8 _ (HT7.out.later l8)
            have cv2 := conv_str (some ⟨gx, 0, none⟩) 128 cx (tagB g s a) HX128.out.symm w8 _ (HXY.out.later (HL7.out.trans l8))
            have hss := bstr_ne HT256.out HX256.out he
            obtain ⟨S1, hS1⟩ : ∃ S, S = bstr tt := ⟨_, rfl⟩
            obtain ⟨S2, hS2⟩ : ∃ S, S = bstr (tagB g s a) := ⟨_, rfl⟩
            rw [← hS1] at cv1 hss
            rw [← hS2] at cv2 hss
            clear hl1 hl2 l8 hS1 hS2 he HTKK
            go_wp2_with fail
            go_ret
            exact ⟨rfl, HL8.out⟩
  · rcases hB with f3 | ⟨f3, f4⟩
    all_goals rcases no with _ | _
    all_goals
      go_wp2_with fail
      refine C1.out.mono ?_
      intro e w2 h
      obtain ⟨A2, cx, rfl, o2, l2⟩ := h.yes HP1.out
      obtain ⟨gx, rfl⟩ := own_some o2 (by decide)
      have HX2 := Lib.hid (Has.own o2)
      have HCX := Lib.hid (own_cap o2)
      have HCXM := Lib.hid (own_capmax o2)
      have HL2 := Lib.hid (HL1.out.trans l2)
      have C2 := Lib.hid (tagPut_any g' s' B m cb b w2 hgl hsl HM.out (HRB.out.later HL2.out) HNILB.out)
      clear h o2 l2 C1
      go_wp2_with fail
      refine C2.out.mono ?_
      intro e w3 h
      obtain ⟨A3, cz, rfl, o3, l3⟩ := h.yes HP2.out
      obtain ⟨gz, rfl⟩ := own_some o3 (by decide)
      have HL3 := Lib.hid (HL2.out.trans l3)
      have HX3 := Lib.hid (HX2.out.later l3)
      have HZ3 := Lib.hid (Has.own o3)
      have HCZ := Lib.hid (own_cap o3)
      have HCZM := Lib.hid (own_capmax o3)
      clear h l3 C2 HX2 HL2 o3
    · obtain ⟨wy, hwy⟩ : ∃ x, x = w3 := ⟨_, rfl⟩
      rw [← hwy] at HL3 HX3 HZ3 ⊢
      obtain ⟨gy, hgy⟩ : ∃ x, x = gz := ⟨_, rfl⟩
      obtain ⟨cy, hcy⟩ : ∃ x, x = cz := ⟨_, rfl⟩
      rw [← hgy] at HZ3 ⊢
      rw [← hcy] at HCZ HCZM ⊢
      have HYY := Lib.hid (show Has wy (some ⟨gy, 0, none⟩) (ints .u8 y) from by rw [HY.out]; exact HZ3.out)
      have HCY := Lib.hid (show 128 ≤ cy from HCZ.out)
      have HCYM := Lib.hid (show cy ≤ 9223372036854775807 from HCZM.out)
      have HLY := Lib.hid HL3.out
      have HXY := Lib.hid HX3.out
      clear hwy hgy hcy HL3 HX3 HZ3 HCZ HCZM hmk
      have hi1 : (0 : Int) ≤ (k : Int) := by omega
      have hi2 : (k : Int) ≤ 128 := by omega
      have hi3 : (k : Int) ≤ (cx : Int) := by have := HCX.out; omega
      have hi4 : (k : Int) ≤ (cy : Int) := by have := HCY.out; omega
      have hi5 : (128 : Int) ≤ (cy : Int) := by have := HCY.out; omega
      have hi6 : (128 : Int) - (k : Int) = ((128 - k : Nat) : Int) := by omega
      have hi7 : (cy : Int) - (k : Int) = ((cy - k : Nat) : Int) := by have := HCY.out; omega
      have L0 : Later wy (wy.alloc (.cells #[] 5)).drew := ((Later.refl wy).alloc _).drew
      have OWN := Lib.hid (show ((wy.alloc (.cells #[] 5)).drew).ownsRow wy.heap.size 5 1 (.slice (some ⟨wy.heap.size, 0, none⟩) 0 0) 0 [] from (Blk.new wy ([] : List Value).toArray 5 _ rfl).ownG (base := wy.heap.size) (size := 1) (n := 0) (Nat.le_refl _) rfl (by decide))
      have RX := Lib.hid (show Has _ (some ⟨gx, 0, none⟩) (ints .u8 ((tagB g s a).take k)) from by have h := (HXY.out.later L0).take k; rw [ints_take] at h; exact h)
      have HZ0 := Lib.hid L0.size
      have HL0 := Lib.hid L0
      clear L0
      by_cases hck : k < cy
      · have hcne : ¬ cy = k := by omega
        have RYD := Lib.hid (show Has wy (some ⟨gy, k, none⟩) (ints .u8 (y.drop k)) from by have h := HYY.out.drop k; rw [Nat.zero_add] at h; simpa [ints, List.map_drop] using h)
        go_wp2_with fail
        first | (go_region_law (first
          | (refine step_append_rd (by rfl) (.tmp 94) (.tmp 97) 39 (by rfl) wy.heap.size 5 (.int .u8 0) 1 Tryd.underlying39 info_u8 rfl _ 0 [] (by rfl) OWN.out _ (some ⟨gx, 0, none⟩) k cx (ints .u8 ((tagB g s a).take k)) (by rfl) RX.out.rd ?_ ?_ (ints_one _ _) ?_ ?_ ?_ ?_; (rw [ints_length, List.length_take, HX128.out]; omega); (intro h; cases h); (unfold maxLen; omega); omega; (exact HZ0.out); intro A2 c2 w6 o2 g2 b2 n2; rw [Nat.zero_add] at o2 ⊢; rw [List.nil_append] at o2; have HO2 := Lib.hid o2; have HL6 := Lib.hid (show Later wy w6 from Below.trans HL0.out b2); have RY := Lib.hid (RYD.out.later HL6.out); have HZ6 := Lib.hid b2.size; clear o2 g2 b2 n2)
          | (refine step_append_rd (by rfl) (.tmp 98) (.tmp 101) 39 (by rfl) wy.heap.size 5 (.int .u8 0) 1 Tryd.underlying39 info_u8 rfl _ k (ints .u8 ((tagB g s a).take k)) (by rfl) HO2.out _ (some ⟨gy, k, none⟩) (128 - k) (cy - k) (ints .u8 (y.drop k)) (by rfl) RY.out.rd ?_ ?_ (ints_one _ _) ?_ ?_ ?_ ?_; (rw [ints_length, List.length_drop, HY128.out]); (intro h; cases h); (unfold maxLen; omega); omega; (exact HL6.out.size); intro A3 c3 w7 o3 g3 b3 n3; rw [show k + (128 - k) = 128 by omega] at o3 ⊢; have HT7 := Lib.hid (show Has w7 A3 (ints .u8 tt) from by have h := Has.own o3; rw [← ints_snoc, ← HTT.out] at h; exact h); have HC7 := Lib.hid (own_cap o3); have HM7 := Lib.hid (own_capmax o3); have HL7 := Lib.hid (show Later wy w7 from Later.of (HL6.out.below.trans b3)); clear o3 g3 b3 n3))) | fail "no walk"
        all_goals
          have HTKK := Lib.hid (tagTake_any g s A3 128 c3 tt w7 hg hsq HTL.out.symm HT7.out HT256.out (by rw [HTL.out]; decide) HC7.out HM7.out (HS.out.later (HLY.out.trans HL7.out)))
          rw [HTK.out] at HTKK
          clear OWN RX HZ0 HL0
          go_wp2_with fail
          by_cases he : tt = tagB g s a
          · rw [if_pos he] at HTKK
            refine HTKK.out.mono ?_
            rintro e w8 ⟨Z, cz, rfl, hz8, l8⟩
            have HL8 := Lib.hid (HLY.out.trans (HL7.out.trans l8))
            have hl1 : ((some a : Option (List Nat)).getD []).length = n := HN.out.symm
            have hl2 : (some a : Option (List Nat)).isSome = true := rfl
            rw [hl1, hl2]
            have cv1 := conv_str A3 128 c3 tt HTL.out.symm w8 _ (HT7.out.later l8)
            have cv2 := conv_str (some ⟨gx, 0, none⟩) 128 cx (tagB g s a) HX128.out.symm w8 _ (HXY.out.later (HL7.out.trans l8))
            have cv3 := conv_str Z n cz a HN.out w8 _ (show Has w8 Z (ints .u8 a) from hz8)
            have cv4 := conv_str A n c a HN.out w8 _ (HR.out.later HL8.out)
            rw [he] at cv1
            obtain ⟨S1, hS1⟩ : ∃ S, S = bstr (tagB g s a) := ⟨_, rfl⟩
            obtain ⟨S2, hS2⟩ : ∃ S, S = bstr a := ⟨_, rfl⟩
            rw [← hS1] at cv1 cv2
            rw [← hS2] at cv3 cv4
            have hs1 : (S1.toList == S1.toList) = true := by simp
            have hs2 : (S2.toList == S2.toList) = true := by simp
            clear hl1 hl2 hz8 l8 hS1 hS2 he HTKK
            go_wp2_with fail
            go_ret
            exact ⟨rfl, HL8.out⟩
          · rw [if_neg he] at HTKK
            refine HTKK.out.mono ?_
            rintro e w8 ⟨Z, cz, rfl, _, l8⟩
            have HL8 := Lib.hid (HLY.out.trans (HL7.out.trans l8))
            have hl1 : ((none : Option (List Nat)).getD []).length = 0 := rfl
            have hl2 : (none : Option (List Nat)).isSome = false := rfl
            rw [hl1, hl2]
            have cv1 := conv_str A3 128 c3 tt HTL.out.symm w8 _ (HT7.out.later l8)
            have cv2 := conv_str (some ⟨gx, 0, none⟩) 128 cx (tagB g s a) HX128.out.symm w8 _ (HXY.out.later (HL7.out.trans l8))
            have hss := bstr_ne HT256.out HX256.out he
            obtain ⟨S1, hS1⟩ : ∃ S, S = bstr tt := ⟨_, rfl⟩
            obtain ⟨S2, hS2⟩ : ∃ S, S = bstr (tagB g s a) := ⟨_, rfl⟩
            rw [← hS1] at cv1 hss
            rw [← hS2] at cv2 hss
            clear hl1 hl2 l8 hS1 hS2 he HTKK
            go_wp2_with fail
            go_ret
            exact ⟨rfl, HL8.out⟩
      · obtain rfl : k = 128 := by have := HCY.out; omega
        have hcz : cy = 128 := by have := HCY.out; omega
        have hk2 : (at_ : Int) % 129 = 128 := hkk
        have hk3 : Int.tmod (at_ : Int) 129 = 128 := hkt
        have hj1 : (128 : Int) ≤ (cx : Int) := hi3
        have hj2 : 128 ≤ cx := HCX.out
        clear hkk hkt hi1 hi2 hi3 hi4 hi5 hi6 hi7 hck
        have RYD := Lib.hid (show Has wy (some ⟨gy, 0, none⟩) (ints .u8 (y.drop 128)) from by rw [List.drop_of_length_le (by rw [HY128.out]; exact Nat.le_refl _)]; exact .inl rfl)
        subst hcz
        go_wp2_with fail
        first | (go_region_law (first
          | (refine step_append_rd (by rfl) (.tmp 94) (.tmp 97) 39 (by rfl) wy.heap.size 5 (.int .u8 0) 1 Tryd.underlying39 info_u8 rfl _ 0 [] (by rfl) OWN.out _ (some ⟨gx, 0, none⟩) 128 cx (ints .u8 ((tagB g s a).take 128)) (by rfl) RX.out.rd ?_ ?_ (ints_one _ _) ?_ ?_ ?_ ?_; (rw [ints_length, List.length_take, HX128.out]; omega); (intro h; cases h); (unfold maxLen; omega); omega; (exact HZ0.out); intro A2 c2 w6 o2 g2 b2 n2; rw [Nat.zero_add] at o2 ⊢; rw [List.nil_append] at o2; have HO2 := Lib.hid o2; have HL6 := Lib.hid (show Later wy w6 from Below.trans HL0.out b2); have RY := Lib.hid (RYD.out.later HL6.out); have HZ6 := Lib.hid b2.size; clear o2 g2 b2 n2)
          | (refine step_append_rd (by rfl) (.tmp 98) (.tmp 101) 39 (by rfl) wy.heap.size 5 (.int .u8 0) 1 Tryd.underlying39 info_u8 rfl _ 128 (ints .u8 ((tagB g s a).take 128)) (by rfl) HO2.out _ (some ⟨gy, 0, none⟩) 0 0 (ints .u8 (y.drop 128)) (by rfl) RY.out.rd ?_ ?_ (ints_one _ _) ?_ ?_ ?_ ?_; (rw [ints_length, List.length_drop, HY128.out]); (intro h; cases h); (unfold maxLen; omega); omega; (exact HL6.out.size); intro A3 c3 w7 o3 g3 b3 n3; rw [show 128 + 0 = 128 by omega] at o3 ⊢; have HT7 := Lib.hid (show Has w7 A3 (ints .u8 tt) from by have h := Has.own o3; rw [← ints_snoc, ← HTT.out] at h; exact h); have HC7 := Lib.hid (own_cap o3); have HM7 := Lib.hid (own_capmax o3); have HL7 := Lib.hid (show Later wy w7 from Later.of (HL6.out.below.trans b3)); clear o3 g3 b3 n3))) | fail "no walk"
        all_goals
          have HTKK := Lib.hid (tagTake_any g s A3 128 c3 tt w7 hg hsq HTL.out.symm HT7.out HT256.out (by rw [HTL.out]; decide) HC7.out HM7.out (HS.out.later (HLY.out.trans HL7.out)))
          rw [HTK.out] at HTKK
          clear OWN RX HZ0 HL0
          go_wp2_with fail
          by_cases he : tt = tagB g s a
          · rw [if_pos he] at HTKK
            refine HTKK.out.mono ?_
            rintro e w8 ⟨Z, cz, rfl, hz8, l8⟩
            have HL8 := Lib.hid (HLY.out.trans (HL7.out.trans l8))
            have hl1 : ((some a : Option (List Nat)).getD []).length = n := HN.out.symm
            have hl2 : (some a : Option (List Nat)).isSome = true := rfl
            rw [hl1, hl2]
            have cv1 := conv_str A3 128 c3 tt HTL.out.symm w8 _ (HT7.out.later l8)
            have cv2 := conv_str (some ⟨gx, 0, none⟩) 128 cx (tagB g s a) HX128.out.symm w8 _ (HXY.out.later (HL7.out.trans l8))
            have cv3 := conv_str Z n cz a HN.out w8 _ (show Has w8 Z (ints .u8 a) from hz8)
            have cv4 := conv_str A n c a HN.out w8 _ (HR.out.later HL8.out)
            rw [he] at cv1
            obtain ⟨S1, hS1⟩ : ∃ S, S = bstr (tagB g s a) := ⟨_, rfl⟩
            obtain ⟨S2, hS2⟩ : ∃ S, S = bstr a := ⟨_, rfl⟩
            rw [← hS1] at cv1 cv2
            rw [← hS2] at cv3 cv4
            have hs1 : (S1.toList == S1.toList) = true := by simp
            have hs2 : (S2.toList == S2.toList) = true := by simp
            clear hl1 hl2 hz8 l8 hS1 hS2 he HTKK
            go_wp2_with fail
            go_ret
            exact ⟨rfl, HL8.out⟩
          · rw [if_neg he] at HTKK
            refine HTKK.out.mono ?_
            rintro e w8 ⟨Z, cz, rfl, _, l8⟩
            have HL8 := Lib.hid (HLY.out.trans (HL7.out.trans l8))
            have hl1 : ((none : Option (List Nat)).getD []).length = 0 := rfl
            have hl2 : (none : Option (List Nat)).isSome = false := rfl
            rw [hl1, hl2]
            have cv1 := conv_str A3 128 c3 tt HTL.out.symm w8 _ (HT7.out.later l8)
            have cv2 := conv_str (some ⟨gx, 0, none⟩) 128 cx (tagB g s a) HX128.out.symm w8 _ (HXY.out.later (HL7.out.trans l8))
            have hss := bstr_ne HT256.out HX256.out he
            obtain ⟨S1, hS1⟩ : ∃ S, S = bstr tt := ⟨_, rfl⟩
            obtain ⟨S2, hS2⟩ : ∃ S, S = bstr (tagB g s a) := ⟨_, rfl⟩
            rw [← hS1] at cv1 hss
            rw [← hS2] at cv2 hss
            clear hl1 hl2 l8 hS1 hS2 he HTKK
            go_wp2_with fail
            go_ret
            exact ⟨rfl, HL8.out⟩
    · obtain ⟨gy, hgy⟩ : ∃ x, w3.heap.size = x := ⟨_, rfl⟩
      obtain ⟨wy, hwy⟩ : ∃ x, w3.alloc (.cells (madeCells #[.int .u8 0] 128) 5) = x := ⟨_, rfl⟩
      have hly := Later.new w3 (.cells (madeCells #[.int .u8 0] 128) 5)
      have hry := Row.made w3 5 .u8 128
      rw [hwy] at hly hry
      rw [hgy] at hry
      obtain ⟨cy, hcy⟩ : ∃ x : Nat, x = 128 := ⟨_, rfl⟩
      have HYY := Lib.hid (show Has wy (some ⟨gy, 0, none⟩) (ints .u8 y) from by rw [HY.out]; exact Has.row hry)
      have HCY := Lib.hid (show 128 ≤ cy by omega)
      have HCYM := Lib.hid (show cy ≤ 9223372036854775807 by omega)
      have HLY := Lib.hid (HL3.out.trans hly)
      have HXY := Lib.hid (HX3.out.later hly)
      have HC128 := Lib.hid hcy
      clear hly hry HL3 HX3 HZ3 HCZ HCZM hcy
      have hi1 : (0 : Int) ≤ (k : Int) := by omega
      have hi2 : (k : Int) ≤ 128 := by omega
      have hi3 : (k : Int) ≤ (cx : Int) := by have := HCX.out; omega
      have hi4 : (k : Int) ≤ (128 : Int) := by have := HCY.out; omega
      have hi5 : (128 : Int) ≤ (128 : Int) := by have := HCY.out; omega
      have hi6 : (128 : Int) - (k : Int) = ((128 - k : Nat) : Int) := by omega
      have hi7 : (128 : Int) - (k : Int) = ((128 - k : Nat) : Int) := by have := HCY.out; omega
      have L0 : Later wy (wy.alloc (.cells #[] 5)).drew := ((Later.refl wy).alloc _).drew
      have OWN := Lib.hid (show ((wy.alloc (.cells #[] 5)).drew).ownsRow wy.heap.size 5 1 (.slice (some ⟨wy.heap.size, 0, none⟩) 0 0) 0 [] from (Blk.new wy ([] : List Value).toArray 5 _ rfl).ownG (base := wy.heap.size) (size := 1) (n := 0) (Nat.le_refl _) rfl (by decide))
      have RX := Lib.hid (show Has _ (some ⟨gx, 0, none⟩) (ints .u8 ((tagB g s a).take k)) from by have h := (HXY.out.later L0).take k; rw [ints_take] at h; exact h)
      have HZ0 := Lib.hid L0.size
      have HL0 := Lib.hid L0
      clear L0
      by_cases hck : k < 128
      · have hcne : ¬ 128 = k := by omega
        have RYD := Lib.hid (show Has wy (some ⟨gy, k, none⟩) (ints .u8 (y.drop k)) from by have h := HYY.out.drop k; rw [Nat.zero_add] at h; simpa [ints, List.map_drop] using h)
        go_wp2_with fail
        first | (go_region_law (first
          | (refine step_append_rd (by rfl) (.tmp 94) (.tmp 97) 39 (by rfl) wy.heap.size 5 (.int .u8 0) 1 Tryd.underlying39 info_u8 rfl _ 0 [] (by rfl) OWN.out _ (some ⟨gx, 0, none⟩) k cx (ints .u8 ((tagB g s a).take k)) (by rfl) RX.out.rd ?_ ?_ (ints_one _ _) ?_ ?_ ?_ ?_; (rw [ints_length, List.length_take, HX128.out]; omega); (intro h; cases h); (unfold maxLen; omega); omega; (exact HZ0.out); intro A2 c2 w6 o2 g2 b2 n2; rw [Nat.zero_add] at o2 ⊢; rw [List.nil_append] at o2; have HO2 := Lib.hid o2; have HL6 := Lib.hid (show Later wy w6 from Below.trans HL0.out b2); have RY := Lib.hid (RYD.out.later HL6.out); have HZ6 := Lib.hid b2.size; clear o2 g2 b2 n2)
          | (refine step_append_rd (by rfl) (.tmp 98) (.tmp 101) 39 (by rfl) wy.heap.size 5 (.int .u8 0) 1 Tryd.underlying39 info_u8 rfl _ k (ints .u8 ((tagB g s a).take k)) (by rfl) HO2.out _ (some ⟨gy, k, none⟩) (128 - k) (128 - k) (ints .u8 (y.drop k)) (by rfl) RY.out.rd ?_ ?_ (ints_one _ _) ?_ ?_ ?_ ?_; (rw [ints_length, List.length_drop, HY128.out]); (intro h; cases h); (unfold maxLen; omega); omega; (exact HL6.out.size); intro A3 c3 w7 o3 g3 b3 n3; rw [show k + (128 - k) = 128 by omega] at o3 ⊢; have HT7 := Lib.hid (show Has w7 A3 (ints .u8 tt) from by have h := Has.own o3; rw [← ints_snoc, ← HTT.out] at h; exact h); have HC7 := Lib.hid (own_cap o3); have HM7 := Lib.hid (own_capmax o3); have HL7 := Lib.hid (show Later wy w7 from Later.of (HL6.out.below.trans b3)); clear o3 g3 b3 n3))) | fail "no walk"
        all_goals
          have HTKK := Lib.hid (tagTake_any g s A3 128 c3 tt w7 hg hsq HTL.out.symm HT7.out HT256.out (by rw [HTL.out]; decide) HC7.out HM7.out (HS.out.later (HLY.out.trans HL7.out)))
          rw [HTK.out] at HTKK
          clear OWN RX HZ0 HL0
          go_wp2_with fail
          by_cases he : tt = tagB g s a
          · rw [if_pos he] at HTKK
            refine HTKK.out.mono ?_
            rintro e w8 ⟨Z, cz, rfl, hz8, l8⟩
            have HL8 := Lib.hid (HLY.out.trans (HL7.out.trans l8))
            have hl1 : ((some a : Option (List Nat)).getD []).length = n := HN.out.symm
            have hl2 : (some a : Option (List Nat)).isSome = true := rfl
            rw [hl1, hl2]
            have cv1 := conv_str A3 128 c3 tt HTL.out.symm w8 _ (HT7.out.later l8)
            have cv2 := conv_str (some ⟨gx, 0, none⟩) 128 cx (tagB g s a) HX128.out.symm w8 _ (HXY.out.later (HL7.out.trans l8))
            have cv3 := conv_str Z n cz a HN.out w8 _ (show Has w8 Z (ints .u8 a) from hz8)
            have cv4 := conv_str A n c a HN.out w8 _ (HR.out.later HL8.out)
            rw [he] at cv1
            obtain ⟨S1, hS1⟩ : ∃ S, S = bstr (tagB g s a) := ⟨_, rfl⟩
            obtain ⟨S2, hS2⟩ : ∃ S, S = bstr a := ⟨_, rfl⟩
            rw [← hS1] at cv1 cv2
            rw [← hS2] at cv3 cv4
            have hs1 : (S1.toList == S1.toList) = true := by simp
            have hs2 : (S2.toList == S2.toList) = true := by simp
            clear hl1 hl2 hz8 l8 hS1 hS2 he HTKK
            go_wp2_with fail
            go_ret
            exact ⟨rfl, HL8.out⟩
          · rw [if_neg he] at HTKK
            refine HTKK.out.mono ?_
            rintro e w8 ⟨Z, cz, rfl, _, l8⟩
            have HL8 := Lib.hid (HLY.out.trans (HL7.out.trans l8))
            have hl1 : ((none : Option (List Nat)).getD []).length = 0 := rfl
            have hl2 : (none : Option (List Nat)).isSome = false := rfl
            rw [hl1, hl2]
            have cv1 := conv_str A3 128 c3 tt HTL.out.symm w8 _ (HT7.out.later l8)
            have cv2 := conv_str (some ⟨gx, 0, none⟩) 128 cx (tagB g s a) HX128.out.symm w8 _ (HXY.out.later (HL7.out.trans l8))
            have hss := bstr_ne HT256.out HX256.out he
            obtain ⟨S1, hS1⟩ : ∃ S, S = bstr tt := ⟨_, rfl⟩
            obtain ⟨S2, hS2⟩ : ∃ S, S = bstr (tagB g s a) := ⟨_, rfl⟩
            rw [← hS1] at cv1 hss
            rw [← hS2] at cv2 hss
            clear hl1 hl2 l8 hS1 hS2 he HTKK
            go_wp2_with fail
            go_ret
            exact ⟨rfl, HL8.out⟩
      · obtain rfl : k = 128 := by have := HCY.out; omega
        have hcz : 128 = 128 := by have := HCY.out; omega
        have hk2 : (at_ : Int) % 129 = 128 := hkk
        have hk3 : Int.tmod (at_ : Int) 129 = 128 := hkt
        have hj1 : (128 : Int) ≤ (cx : Int) := hi3
        have hj2 : 128 ≤ cx := HCX.out
        clear hkk hkt hi1 hi2 hi3 hi4 hi5 hi6 hi7 hck
        have RYD := Lib.hid (show Has wy (some ⟨gy, 0, none⟩) (ints .u8 (y.drop 128)) from by rw [List.drop_of_length_le (by rw [HY128.out]; exact Nat.le_refl _)]; exact .inl rfl)
        clear hcz
        go_wp2_with fail
        first | (go_region_law (first
          | (refine step_append_rd (by rfl) (.tmp 94) (.tmp 97) 39 (by rfl) wy.heap.size 5 (.int .u8 0) 1 Tryd.underlying39 info_u8 rfl _ 0 [] (by rfl) OWN.out _ (some ⟨gx, 0, none⟩) 128 cx (ints .u8 ((tagB g s a).take 128)) (by rfl) RX.out.rd ?_ ?_ (ints_one _ _) ?_ ?_ ?_ ?_; (rw [ints_length, List.length_take, HX128.out]; omega); (intro h; cases h); (unfold maxLen; omega); omega; (exact HZ0.out); intro A2 c2 w6 o2 g2 b2 n2; rw [Nat.zero_add] at o2 ⊢; rw [List.nil_append] at o2; have HO2 := Lib.hid o2; have HL6 := Lib.hid (show Later wy w6 from Below.trans HL0.out b2); have RY := Lib.hid (RYD.out.later HL6.out); have HZ6 := Lib.hid b2.size; clear o2 g2 b2 n2)
          | (refine step_append_rd (by rfl) (.tmp 98) (.tmp 101) 39 (by rfl) wy.heap.size 5 (.int .u8 0) 1 Tryd.underlying39 info_u8 rfl _ 128 (ints .u8 ((tagB g s a).take 128)) (by rfl) HO2.out _ (some ⟨gy, 0, none⟩) 0 0 (ints .u8 (y.drop 128)) (by rfl) RY.out.rd ?_ ?_ (ints_one _ _) ?_ ?_ ?_ ?_; (rw [ints_length, List.length_drop, HY128.out]); (intro h; cases h); (unfold maxLen; omega); omega; (exact HL6.out.size); intro A3 c3 w7 o3 g3 b3 n3; rw [show 128 + 0 = 128 by omega] at o3 ⊢; have HT7 := Lib.hid (show Has w7 A3 (ints .u8 tt) from by have h := Has.own o3; rw [← ints_snoc, ← HTT.out] at h; exact h); have HC7 := Lib.hid (own_cap o3); have HM7 := Lib.hid (own_capmax o3); have HL7 := Lib.hid (show Later wy w7 from Later.of (HL6.out.below.trans b3)); clear o3 g3 b3 n3))) | fail "no walk"
        all_goals
          have HTKK := Lib.hid (tagTake_any g s A3 128 c3 tt w7 hg hsq HTL.out.symm HT7.out HT256.out (by rw [HTL.out]; decide) HC7.out HM7.out (HS.out.later (HLY.out.trans HL7.out)))
          rw [HTK.out] at HTKK
          clear OWN RX HZ0 HL0
          go_wp2_with fail
          by_cases he : tt = tagB g s a
          · rw [if_pos he] at HTKK
            refine HTKK.out.mono ?_
            rintro e w8 ⟨Z, cz, rfl, hz8, l8⟩
            have HL8 := Lib.hid (HLY.out.trans (HL7.out.trans l8))
            have hl1 : ((some a : Option (List Nat)).getD []).length = n := HN.out.symm
            have hl2 : (some a : Option (List Nat)).isSome = true := rfl
            rw [hl1, hl2]
            have cv1 := conv_str A3 128 c3 tt HTL.out.symm w8 _ (HT7.out.later l8)
            have cv2 := conv_str (some ⟨gx, 0, none⟩) 128 cx (tagB g s a) HX128.out.symm w8 _ (HXY.out.later (HL7.out.trans l8))
            have cv3 := conv_str Z n cz a HN.out w8 _ (show Has w8 Z (ints .u8 a) from hz8)
            have cv4 := conv_str A n c a HN.out w8 _ (HR.out.later HL8.out)
            rw [he] at cv1
            obtain ⟨S1, hS1⟩ : ∃ S, S = bstr (tagB g s a) := ⟨_, rfl⟩
            obtain ⟨S2, hS2⟩ : ∃ S, S = bstr a := ⟨_, rfl⟩
            rw [← hS1] at cv1 cv2
            rw [← hS2] at cv3 cv4
            have hs1 : (S1.toList == S1.toList) = true := by simp
            have hs2 : (S2.toList == S2.toList) = true := by simp
            clear hl1 hl2 hz8 l8 hS1 hS2 he HTKK
            go_wp2_with fail
            go_ret
            exact ⟨rfl, HL8.out⟩
          · rw [if_neg he] at HTKK
            refine HTKK.out.mono ?_
            rintro e w8 ⟨Z, cz, rfl, _, l8⟩
            have HL8 := Lib.hid (HLY.out.trans (HL7.out.trans l8))
            have hl1 : ((none : Option (List Nat)).getD []).length = 0 := rfl
            have hl2 : (none : Option (List Nat)).isSome = false := rfl
            rw [hl1, hl2]
            have cv1 := conv_str A3 128 c3 tt HTL.out.symm w8 _ (HT7.out.later l8)
            have cv2 := conv_str (some ⟨gx, 0, none⟩) 128 cx (tagB g s a) HX128.out.symm w8 _ (HXY.out.later (HL7.out.trans l8))
            have hss := bstr_ne HT256.out HX256.out he
            obtain ⟨S1, hS1⟩ : ∃ S, S = bstr tt := ⟨_, rfl⟩
            obtain ⟨S2, hS2⟩ : ∃ S, S = bstr (tagB g s a) := ⟨_, rfl⟩
            rw [← hS1] at cv1 hss
            rw [← hS2] at cv2 hss
            clear hl1 hl2 l8 hS1 hS2 he HTKK
            go_wp2_with fail
            go_ret
            exact ⟨rfl, HL8.out⟩
    · obtain ⟨wy, hwy⟩ : ∃ x, x = w3 := ⟨_, rfl⟩
      rw [← hwy] at HL3 HX3 HZ3 ⊢
      obtain ⟨gy, hgy⟩ : ∃ x, x = gz := ⟨_, rfl⟩
      obtain ⟨cy, hcy⟩ : ∃ x, x = cz := ⟨_, rfl⟩
      rw [← hgy] at HZ3 ⊢
      rw [← hcy] at HCZ HCZM ⊢
      have HYY := Lib.hid (show Has wy (some ⟨gy, 0, none⟩) (ints .u8 y) from by rw [HY.out]; exact HZ3.out)
      have HCY := Lib.hid (show 128 ≤ cy from HCZ.out)
      have HCYM := Lib.hid (show cy ≤ 9223372036854775807 from HCZM.out)
      have HLY := Lib.hid HL3.out
      have HXY := Lib.hid HX3.out
      clear hwy hgy hcy HL3 HX3 HZ3 HCZ HCZM hmk
      have hi1 : (0 : Int) ≤ (k : Int) := by omega
      have hi2 : (k : Int) ≤ 128 := by omega
      have hi3 : (k : Int) ≤ (cx : Int) := by have := HCX.out; omega
      have hi4 : (k : Int) ≤ (cy : Int) := by have := HCY.out; omega
      have hi5 : (128 : Int) ≤ (cy : Int) := by have := HCY.out; omega
      have hi6 : (128 : Int) - (k : Int) = ((128 - k : Nat) : Int) := by omega
      have hi7 : (cy : Int) - (k : Int) = ((cy - k : Nat) : Int) := by have := HCY.out; omega
      have L0 : Later wy (wy.alloc (.cells #[] 5)).drew := ((Later.refl wy).alloc _).drew
      have OWN := Lib.hid (show ((wy.alloc (.cells #[] 5)).drew).ownsRow wy.heap.size 5 1 (.slice (some ⟨wy.heap.size, 0, none⟩) 0 0) 0 [] from (Blk.new wy ([] : List Value).toArray 5 _ rfl).ownG (base := wy.heap.size) (size := 1) (n := 0) (Nat.le_refl _) rfl (by decide))
      have RX := Lib.hid (show Has _ (some ⟨gx, 0, none⟩) (ints .u8 ((tagB g s a).take k)) from by have h := (HXY.out.later L0).take k; rw [ints_take] at h; exact h)
      have HZ0 := Lib.hid L0.size
      have HL0 := Lib.hid L0
      clear L0
      by_cases hck : k < cy
      · have hcne : ¬ cy = k := by omega
        have RYD := Lib.hid (show Has wy (some ⟨gy, k, none⟩) (ints .u8 (y.drop k)) from by have h := HYY.out.drop k; rw [Nat.zero_add] at h; simpa [ints, List.map_drop] using h)
        go_wp2_with fail
        first | (go_region_law (first
          | (refine step_append_rd (by rfl) (.tmp 94) (.tmp 97) 39 (by rfl) wy.heap.size 5 (.int .u8 0) 1 Tryd.underlying39 info_u8 rfl _ 0 [] (by rfl) OWN.out _ (some ⟨gx, 0, none⟩) k cx (ints .u8 ((tagB g s a).take k)) (by rfl) RX.out.rd ?_ ?_ (ints_one _ _) ?_ ?_ ?_ ?_; (rw [ints_length, List.length_take, HX128.out]; omega); (intro h; cases h); (unfold maxLen; omega); omega; (exact HZ0.out); intro A2 c2 w6 o2 g2 b2 n2; rw [Nat.zero_add] at o2 ⊢; rw [List.nil_append] at o2; have HO2 := Lib.hid o2; have HL6 := Lib.hid (show Later wy w6 from Below.trans HL0.out b2); have RY := Lib.hid (RYD.out.later HL6.out); have HZ6 := Lib.hid b2.size; clear o2 g2 b2 n2)
          | (refine step_append_rd (by rfl) (.tmp 98) (.tmp 101) 39 (by rfl) wy.heap.size 5 (.int .u8 0) 1 Tryd.underlying39 info_u8 rfl _ k (ints .u8 ((tagB g s a).take k)) (by rfl) HO2.out _ (some ⟨gy, k, none⟩) (128 - k) (cy - k) (ints .u8 (y.drop k)) (by rfl) RY.out.rd ?_ ?_ (ints_one _ _) ?_ ?_ ?_ ?_; (rw [ints_length, List.length_drop, HY128.out]); (intro h; cases h); (unfold maxLen; omega); omega; (exact HL6.out.size); intro A3 c3 w7 o3 g3 b3 n3; rw [show k + (128 - k) = 128 by omega] at o3 ⊢; have HT7 := Lib.hid (show Has w7 A3 (ints .u8 tt) from by have h := Has.own o3; rw [← ints_snoc, ← HTT.out] at h; exact h); have HC7 := Lib.hid (own_cap o3); have HM7 := Lib.hid (own_capmax o3); have HL7 := Lib.hid (show Later wy w7 from Later.of (HL6.out.below.trans b3)); clear o3 g3 b3 n3))) | fail "no walk"
        all_goals
          have HTKK := Lib.hid (tagTake_any g s A3 128 c3 tt w7 hg hsq HTL.out.symm HT7.out HT256.out (by rw [HTL.out]; decide) HC7.out HM7.out (HS.out.later (HLY.out.trans HL7.out)))
          rw [HTK.out] at HTKK
          clear OWN RX HZ0 HL0
          go_wp2_with fail
          by_cases he : tt = tagB g s a
          · rw [if_pos he] at HTKK
            refine HTKK.out.mono ?_
            rintro e w8 ⟨Z, cz, rfl, hz8, l8⟩
            have HL8 := Lib.hid (HLY.out.trans (HL7.out.trans l8))
            have hl1 : ((some a : Option (List Nat)).getD []).length = n := HN.out.symm
            have hl2 : (some a : Option (List Nat)).isSome = true := rfl
            rw [hl1, hl2]
            have cv1 := conv_str A3 128 c3 tt HTL.out.symm w8 _ (HT7.out.later l8)
            have cv2 := conv_str (some ⟨gx, 0, none⟩) 128 cx (tagB g s a) HX128.out.symm w8 _ (HXY.out.later (HL7.out.trans l8))
            have cv3 := conv_str Z n cz a HN.out w8 _ (show Has w8 Z (ints .u8 a) from hz8)
            have cv4 := conv_str A n c a HN.out w8 _ (HR.out.later HL8.out)
            rw [he] at cv1
            obtain ⟨S1, hS1⟩ : ∃ S, S = bstr (tagB g s a) := ⟨_, rfl⟩
            obtain ⟨S2, hS2⟩ : ∃ S, S = bstr a := ⟨_, rfl⟩
            rw [← hS1] at cv1 cv2
            rw [← hS2] at cv3 cv4
            have hs1 : (S1.toList == S1.toList) = true := by simp
            have hs2 : (S2.toList == S2.toList) = true := by simp
            clear hl1 hl2 hz8 l8 hS1 hS2 he HTKK
            go_wp2_with fail
            go_ret
            exact ⟨rfl, HL8.out⟩
          · rw [if_neg he] at HTKK
            refine HTKK.out.mono ?_
            rintro e w8 ⟨Z, cz, rfl, _, l8⟩
            have HL8 := Lib.hid (HLY.out.trans (HL7.out.trans l8))
            have hl1 : ((none : Option (List Nat)).getD []).length = 0 := rfl
            have hl2 : (none : Option (List Nat)).isSome = false := rfl
            rw [hl1, hl2]
            have cv1 := conv_str A3 128 c3 tt HTL.out.symm w8 _ (HT7.out.later l8)
            have cv2 := conv_str (some ⟨gx, 0, none⟩) 128 cx (tagB g s a) HX128.out.symm w8 _ (HXY.out.later (HL7.out.trans l8))
            have hss := bstr_ne HT256.out HX256.out he
            obtain ⟨S1, hS1⟩ : ∃ S, S = bstr tt := ⟨_, rfl⟩
            obtain ⟨S2, hS2⟩ : ∃ S, S = bstr (tagB g s a) := ⟨_, rfl⟩
            rw [← hS1] at cv1 hss
            rw [← hS2] at cv2 hss
            clear hl1 hl2 l8 hS1 hS2 he HTKK
            go_wp2_with fail
            go_ret
            exact ⟨rfl, HL8.out⟩
      · obtain rfl : k = 128 := by have := HCY.out; omega
        have hcz : cy = 128 := by have := HCY.out; omega
        have hk2 : (at_ : Int) % 129 = 128 := hkk
        have hk3 : Int.tmod (at_ : Int) 129 = 128 := hkt
        have hj1 : (128 : Int) ≤ (cx : Int) := hi3
        have hj2 : 128 ≤ cx := HCX.out
        clear hkk hkt hi1 hi2 hi3 hi4 hi5 hi6 hi7 hck
        have RYD := Lib.hid (show Has wy (some ⟨gy, 0, none⟩) (ints .u8 (y.drop 128)) from by rw [List.drop_of_length_le (by rw [HY128.out]; exact Nat.le_refl _)]; exact .inl rfl)
        subst hcz
        go_wp2_with fail
        first | (go_region_law (first
          | (refine step_append_rd (by rfl) (.tmp 94) (.tmp 97) 39 (by rfl) wy.heap.size 5 (.int .u8 0) 1 Tryd.underlying39 info_u8 rfl _ 0 [] (by rfl) OWN.out _ (some ⟨gx, 0, none⟩) 128 cx (ints .u8 ((tagB g s a).take 128)) (by rfl) RX.out.rd ?_ ?_ (ints_one _ _) ?_ ?_ ?_ ?_; (rw [ints_length, List.length_take, HX128.out]; omega); (intro h; cases h); (unfold maxLen; omega); omega; (exact HZ0.out); intro A2 c2 w6 o2 g2 b2 n2; rw [Nat.zero_add] at o2 ⊢; rw [List.nil_append] at o2; have HO2 := Lib.hid o2; have HL6 := Lib.hid (show Later wy w6 from Below.trans HL0.out b2); have RY := Lib.hid (RYD.out.later HL6.out); have HZ6 := Lib.hid b2.size; clear o2 g2 b2 n2)
          | (refine step_append_rd (by rfl) (.tmp 98) (.tmp 101) 39 (by rfl) wy.heap.size 5 (.int .u8 0) 1 Tryd.underlying39 info_u8 rfl _ 128 (ints .u8 ((tagB g s a).take 128)) (by rfl) HO2.out _ (some ⟨gy, 0, none⟩) 0 0 (ints .u8 (y.drop 128)) (by rfl) RY.out.rd ?_ ?_ (ints_one _ _) ?_ ?_ ?_ ?_; (rw [ints_length, List.length_drop, HY128.out]); (intro h; cases h); (unfold maxLen; omega); omega; (exact HL6.out.size); intro A3 c3 w7 o3 g3 b3 n3; rw [show 128 + 0 = 128 by omega] at o3 ⊢; have HT7 := Lib.hid (show Has w7 A3 (ints .u8 tt) from by have h := Has.own o3; rw [← ints_snoc, ← HTT.out] at h; exact h); have HC7 := Lib.hid (own_cap o3); have HM7 := Lib.hid (own_capmax o3); have HL7 := Lib.hid (show Later wy w7 from Later.of (HL6.out.below.trans b3)); clear o3 g3 b3 n3))) | fail "no walk"
        all_goals
          have HTKK := Lib.hid (tagTake_any g s A3 128 c3 tt w7 hg hsq HTL.out.symm HT7.out HT256.out (by rw [HTL.out]; decide) HC7.out HM7.out (HS.out.later (HLY.out.trans HL7.out)))
          rw [HTK.out] at HTKK
          clear OWN RX HZ0 HL0
          go_wp2_with fail
          by_cases he : tt = tagB g s a
          · rw [if_pos he] at HTKK
            refine HTKK.out.mono ?_
            rintro e w8 ⟨Z, cz, rfl, hz8, l8⟩
            have HL8 := Lib.hid (HLY.out.trans (HL7.out.trans l8))
            have hl1 : ((some a : Option (List Nat)).getD []).length = n := HN.out.symm
            have hl2 : (some a : Option (List Nat)).isSome = true := rfl
            rw [hl1, hl2]
            have cv1 := conv_str A3 128 c3 tt HTL.out.symm w8 _ (HT7.out.later l8)
            have cv2 := conv_str (some ⟨gx, 0, none⟩) 128 cx (tagB g s a) HX128.out.symm w8 _ (HXY.out.later (HL7.out.trans l8))
            have cv3 := conv_str Z n cz a HN.out w8 _ (show Has w8 Z (ints .u8 a) from hz8)
            have cv4 := conv_str A n c a HN.out w8 _ (HR.out.later HL8.out)
            rw [he] at cv1
            obtain ⟨S1, hS1⟩ : ∃ S, S = bstr (tagB g s a) := ⟨_, rfl⟩
            obtain ⟨S2, hS2⟩ : ∃ S, S = bstr a := ⟨_, rfl⟩
            rw [← hS1] at cv1 cv2
            rw [← hS2] at cv3 cv4
            have hs1 : (S1.toList == S1.toList) = true := by simp
            have hs2 : (S2.toList == S2.toList) = true := by simp
            clear hl1 hl2 hz8 l8 hS1 hS2 he HTKK
            go_wp2_with fail
            go_ret
            exact ⟨rfl, HL8.out⟩
          · rw [if_neg he] at HTKK
            refine HTKK.out.mono ?_
            rintro e w8 ⟨Z, cz, rfl, _, l8⟩
            have HL8 := Lib.hid (HLY.out.trans (HL7.out.trans l8))
            have hl1 : ((none : Option (List Nat)).getD []).length = 0 := rfl
            have hl2 : (none : Option (List Nat)).isSome = false := rfl
            rw [hl1, hl2]
            have cv1 := conv_str A3 128 c3 tt HTL.out.symm w8 _ (HT7.out.later l8)
            have cv2 := conv_str (some ⟨gx, 0, none⟩) 128 cx (tagB g s a) HX128.out.symm w8 _ (HXY.out.later (HL7.out.trans l8))
            have hss := bstr_ne HT256.out HX256.out he
            obtain ⟨S1, hS1⟩ : ∃ S, S = bstr tt := ⟨_, rfl⟩
            obtain ⟨S2, hS2⟩ : ∃ S, S = bstr (tagB g s a) := ⟨_, rfl⟩
            rw [← hS1] at cv1 hss
            rw [← hS2] at cv2 hss
            clear hl1 hl2 l8 hS1 hS2 he HTKK
            go_wp2_with fail
            go_ret
            exact ⟨rfl, HL8.out⟩
    · obtain ⟨gy, hgy⟩ : ∃ x, w3.heap.size = x := ⟨_, rfl⟩
      obtain ⟨wy, hwy⟩ : ∃ x, w3.alloc (.cells (madeCells #[.int .u8 0] 128) 5) = x := ⟨_, rfl⟩
      have hly := Later.new w3 (.cells (madeCells #[.int .u8 0] 128) 5)
      have hry := Row.made w3 5 .u8 128
      rw [hwy] at hly hry
      rw [hgy] at hry
      obtain ⟨cy, hcy⟩ : ∃ x : Nat, x = 128 := ⟨_, rfl⟩
      have HYY := Lib.hid (show Has wy (some ⟨gy, 0, none⟩) (ints .u8 y) from by rw [HY.out]; exact Has.row hry)
      have HCY := Lib.hid (show 128 ≤ cy by omega)
      have HCYM := Lib.hid (show cy ≤ 9223372036854775807 by omega)
      have HLY := Lib.hid (HL3.out.trans hly)
      have HXY := Lib.hid (HX3.out.later hly)
      have HC128 := Lib.hid hcy
      clear hly hry HL3 HX3 HZ3 HCZ HCZM hcy
      have hi1 : (0 : Int) ≤ (k : Int) := by omega
      have hi2 : (k : Int) ≤ 128 := by omega
      have hi3 : (k : Int) ≤ (cx : Int) := by have := HCX.out; omega
      have hi4 : (k : Int) ≤ (128 : Int) := by have := HCY.out; omega
      have hi5 : (128 : Int) ≤ (128 : Int) := by have := HCY.out; omega
      have hi6 : (128 : Int) - (k : Int) = ((128 - k : Nat) : Int) := by omega
      have hi7 : (128 : Int) - (k : Int) = ((128 - k : Nat) : Int) := by have := HCY.out; omega
      have L0 : Later wy (wy.alloc (.cells #[] 5)).drew := ((Later.refl wy).alloc _).drew
      have OWN := Lib.hid (show ((wy.alloc (.cells #[] 5)).drew).ownsRow wy.heap.size 5 1 (.slice (some ⟨wy.heap.size, 0, none⟩) 0 0) 0 [] from (Blk.new wy ([] : List Value).toArray 5 _ rfl).ownG (base := wy.heap.size) (size := 1) (n := 0) (Nat.le_refl _) rfl (by decide))
      have RX := Lib.hid (show Has _ (some ⟨gx, 0, none⟩) (ints .u8 ((tagB g s a).take k)) from by have h := (HXY.out.later L0).take k; rw [ints_take] at h; exact h)
      have HZ0 := Lib.hid L0.size
      have HL0 := Lib.hid L0
      clear L0
      by_cases hck : k < 128
      · have hcne : ¬ 128 = k := by omega
        have RYD := Lib.hid (show Has wy (some ⟨gy, k, none⟩) (ints .u8 (y.drop k)) from by have h := HYY.out.drop k; rw [Nat.zero_add] at h; simpa [ints, List.map_drop] using h)
        go_wp2_with fail
        first | (go_region_law (first
          | (refine step_append_rd (by rfl) (.tmp 94) (.tmp 97) 39 (by rfl) wy.heap.size 5 (.int .u8 0) 1 Tryd.underlying39 info_u8 rfl _ 0 [] (by rfl) OWN.out _ (some ⟨gx, 0, none⟩) k cx (ints .u8 ((tagB g s a).take k)) (by rfl) RX.out.rd ?_ ?_ (ints_one _ _) ?_ ?_ ?_ ?_; (rw [ints_length, List.length_take, HX128.out]; omega); (intro h; cases h); (unfold maxLen; omega); omega; (exact HZ0.out); intro A2 c2 w6 o2 g2 b2 n2; rw [Nat.zero_add] at o2 ⊢; rw [List.nil_append] at o2; have HO2 := Lib.hid o2; have HL6 := Lib.hid (show Later wy w6 from Below.trans HL0.out b2); have RY := Lib.hid (RYD.out.later HL6.out); have HZ6 := Lib.hid b2.size; clear o2 g2 b2 n2)
          | (refine step_append_rd (by rfl) (.tmp 98) (.tmp 101) 39 (by rfl) wy.heap.size 5 (.int .u8 0) 1 Tryd.underlying39 info_u8 rfl _ k (ints .u8 ((tagB g s a).take k)) (by rfl) HO2.out _ (some ⟨gy, k, none⟩) (128 - k) (128 - k) (ints .u8 (y.drop k)) (by rfl) RY.out.rd ?_ ?_ (ints_one _ _) ?_ ?_ ?_ ?_; (rw [ints_length, List.length_drop, HY128.out]); (intro h; cases h); (unfold maxLen; omega); omega; (exact HL6.out.size); intro A3 c3 w7 o3 g3 b3 n3; rw [show k + (128 - k) = 128 by omega] at o3 ⊢; have HT7 := Lib.hid (show Has w7 A3 (ints .u8 tt) from by have h := Has.own o3; rw [← ints_snoc, ← HTT.out] at h; exact h); have HC7 := Lib.hid (own_cap o3); have HM7 := Lib.hid (own_capmax o3); have HL7 := Lib.hid (show Later wy w7 from Later.of (HL6.out.below.trans b3)); clear o3 g3 b3 n3))) | fail "no walk"
        all_goals
          have HTKK := Lib.hid (tagTake_any g s A3 128 c3 tt w7 hg hsq HTL.out.symm HT7.out HT256.out (by rw [HTL.out]; decide) HC7.out HM7.out (HS.out.later (HLY.out.trans HL7.out)))
          rw [HTK.out] at HTKK
          clear OWN RX HZ0 HL0
          go_wp2_with fail
          by_cases he : tt = tagB g s a
          · rw [if_pos he] at HTKK
            refine HTKK.out.mono ?_
            rintro e w8 ⟨Z, cz, rfl, hz8, l8⟩
            have HL8 := Lib.hid (HLY.out.trans (HL7.out.trans l8))
            have hl1 : ((some a : Option (List Nat)).getD []).length = n := HN.out.symm
            have hl2 : (some a : Option (List Nat)).isSome = true := rfl
            rw [hl1, hl2]
            have cv1 := conv_str A3 128 c3 tt HTL.out.symm w8 _ (HT7.out.later l8)
            have cv2 := conv_str (some ⟨gx, 0, none⟩) 128 cx (tagB g s a) HX128.out.symm w8 _ (HXY.out.later (HL7.out.trans l8))
            have cv3 := conv_str Z n cz a HN.out w8 _ (show Has w8 Z (ints .u8 a) from hz8)
            have cv4 := conv_str A n c a HN.out w8 _ (HR.out.later HL8.out)
            rw [he] at cv1
            obtain ⟨S1, hS1⟩ : ∃ S, S = bstr (tagB g s a) := ⟨_, rfl⟩
            obtain ⟨S2, hS2⟩ : ∃ S, S = bstr a := ⟨_, rfl⟩
            rw [← hS1] at cv1 cv2
            rw [← hS2] at cv3 cv4
            have hs1 : (S1.toList == S1.toList) = true := by simp
            have hs2 : (S2.toList == S2.toList) = true := by simp
            clear hl1 hl2 hz8 l8 hS1 hS2 he HTKK
            go_wp2_with fail
            go_ret
            exact ⟨rfl, HL8.out⟩
          · rw [if_neg he] at HTKK
            refine HTKK.out.mono ?_
            rintro e w8 ⟨Z, cz, rfl, _, l8⟩
            have HL8 := Lib.hid (HLY.out.trans (HL7.out.trans l8))
            have hl1 : ((none : Option (List Nat)).getD []).length = 0 := rfl
            have hl2 : (none : Option (List Nat)).isSome = false := rfl
            rw [hl1, hl2]
            have cv1 := conv_str A3 128 c3 tt HTL.out.symm w8 _ (HT7.out.later l8)
            have cv2 := conv_str (some ⟨gx, 0, none⟩) 128 cx (tagB g s a) HX128.out.symm w8 _ (HXY.out.later (HL7.out.trans l8))
            have hss := bstr_ne HT256.out HX256.out he
            obtain ⟨S1, hS1⟩ : ∃ S, S = bstr tt := ⟨_, rfl⟩
            obtain ⟨S2, hS2⟩ : ∃ S, S = bstr (tagB g s a) := ⟨_, rfl⟩
            rw [← hS1] at cv1 hss
            rw [← hS2] at cv2 hss
            clear hl1 hl2 l8 hS1 hS2 he HTKK
            go_wp2_with fail
            go_ret
            exact ⟨rfl, HL8.out⟩
      · obtain rfl : k = 128 := by have := HCY.out; omega
        have hcz : 128 = 128 := by have := HCY.out; omega
        have hk2 : (at_ : Int) % 129 = 128 := hkk
        have hk3 : Int.tmod (at_ : Int) 129 = 128 := hkt
        have hj1 : (128 : Int) ≤ (cx : Int) := hi3
        have hj2 : 128 ≤ cx := HCX.out
        clear hkk hkt hi1 hi2 hi3 hi4 hi5 hi6 hi7 hck
        have RYD := Lib.hid (show Has wy (some ⟨gy, 0, none⟩) (ints .u8 (y.drop 128)) from by rw [List.drop_of_length_le (by rw [HY128.out]; exact Nat.le_refl _)]; exact .inl rfl)
        clear hcz
        go_wp2_with fail
        first | (go_region_law (first
          | (refine step_append_rd (by rfl) (.tmp 94) (.tmp 97) 39 (by rfl) wy.heap.size 5 (.int .u8 0) 1 Tryd.underlying39 info_u8 rfl _ 0 [] (by rfl) OWN.out _ (some ⟨gx, 0, none⟩) 128 cx (ints .u8 ((tagB g s a).take 128)) (by rfl) RX.out.rd ?_ ?_ (ints_one _ _) ?_ ?_ ?_ ?_; (rw [ints_length, List.length_take, HX128.out]; omega); (intro h; cases h); (unfold maxLen; omega); omega; (exact HZ0.out); intro A2 c2 w6 o2 g2 b2 n2; rw [Nat.zero_add] at o2 ⊢; rw [List.nil_append] at o2; have HO2 := Lib.hid o2; have HL6 := Lib.hid (show Later wy w6 from Below.trans HL0.out b2); have RY := Lib.hid (RYD.out.later HL6.out); have HZ6 := Lib.hid b2.size; clear o2 g2 b2 n2)
          | (refine step_append_rd (by rfl) (.tmp 98) (.tmp 101) 39 (by rfl) wy.heap.size 5 (.int .u8 0) 1 Tryd.underlying39 info_u8 rfl _ 128 (ints .u8 ((tagB g s a).take 128)) (by rfl) HO2.out _ (some ⟨gy, 0, none⟩) 0 0 (ints .u8 (y.drop 128)) (by rfl) RY.out.rd ?_ ?_ (ints_one _ _) ?_ ?_ ?_ ?_; (rw [ints_length, List.length_drop, HY128.out]); (intro h; cases h); (unfold maxLen; omega); omega; (exact HL6.out.size); intro A3 c3 w7 o3 g3 b3 n3; rw [show 128 + 0 = 128 by omega] at o3 ⊢; have HT7 := Lib.hid (show Has w7 A3 (ints .u8 tt) from by have h := Has.own o3; rw [← ints_snoc, ← HTT.out] at h; exact h); have HC7 := Lib.hid (own_cap o3); have HM7 := Lib.hid (own_capmax o3); have HL7 := Lib.hid (show Later wy w7 from Later.of (HL6.out.below.trans b3)); clear o3 g3 b3 n3))) | fail "no walk"
        all_goals
          have HTKK := Lib.hid (tagTake_any g s A3 128 c3 tt w7 hg hsq HTL.out.symm HT7.out HT256.out (by rw [HTL.out]; decide) HC7.out HM7.out (HS.out.later (HLY.out.trans HL7.out)))
          rw [HTK.out] at HTKK
          clear OWN RX HZ0 HL0
          go_wp2_with fail
          by_cases he : tt = tagB g s a
          · rw [if_pos he] at HTKK
            refine HTKK.out.mono ?_
            rintro e w8 ⟨Z, cz, rfl, hz8, l8⟩
            have HL8 := Lib.hid (HLY.out.trans (HL7.out.trans l8))
            have hl1 : ((some a : Option (List Nat)).getD []).length = n := HN.out.symm
            have hl2 : (some a : Option (List Nat)).isSome = true := rfl
            rw [hl1, hl2]
            have cv1 := conv_str A3 128 c3 tt HTL.out.symm w8 _ (HT7.out.later l8)
            have cv2 := conv_str (some ⟨gx, 0, none⟩) 128 cx (tagB g s a) HX128.out.symm w8 _ (HXY.out.later (HL7.out.trans l8))
            have cv3 := conv_str Z n cz a HN.out w8 _ (show Has w8 Z (ints .u8 a) from hz8)
            have cv4 := conv_str A n c a HN.out w8 _ (HR.out.later HL8.out)
            rw [he] at cv1
            obtain ⟨S1, hS1⟩ : ∃ S, S = bstr (tagB g s a) := ⟨_, rfl⟩
            obtain ⟨S2, hS2⟩ : ∃ S, S = bstr a := ⟨_, rfl⟩
            rw [← hS1] at cv1 cv2
            rw [← hS2] at cv3 cv4
            have hs1 : (S1.toList == S1.toList) = true := by simp
            have hs2 : (S2.toList == S2.toList) = true := by simp
            clear hl1 hl2 hz8 l8 hS1 hS2 he HTKK
            go_wp2_with fail
            go_ret
            exact ⟨rfl, HL8.out⟩
          · rw [if_neg he] at HTKK
            refine HTKK.out.mono ?_
            rintro e w8 ⟨Z, cz, rfl, _, l8⟩
            have HL8 := Lib.hid (HLY.out.trans (HL7.out.trans l8))
            have hl1 : ((none : Option (List Nat)).getD []).length = 0 := rfl
            have hl2 : (none : Option (List Nat)).isSome = false := rfl
            rw [hl1, hl2]
            have cv1 := conv_str A3 128 c3 tt HTL.out.symm w8 _ (HT7.out.later l8)
            have cv2 := conv_str (some ⟨gx, 0, none⟩) 128 cx (tagB g s a) HX128.out.symm w8 _ (HXY.out.later (HL7.out.trans l8))
            have hss := bstr_ne HT256.out HX256.out he
            obtain ⟨S1, hS1⟩ : ∃ S, S = bstr tt := ⟨_, rfl⟩
            obtain ⟨S2, hS2⟩ : ∃ S, S = bstr (tagB g s a) := ⟨_, rfl⟩
            rw [← hS1] at cv1 hss
            rw [← hS2] at cv2 hss
            clear hl1 hl2 l8 hS1 hS2 he HTKK
            go_wp2_with fail
            go_ret
            exact ⟨rfl, HL8.out⟩
  · rcases hB with f3 | ⟨f3, f4⟩
    all_goals
      go_wp2_with fail
      refine C1.out.mono ?_
      intro e w2 h
      obtain ⟨A2, cx, rfl, o2, l2⟩ := h.yes HP1.out
      obtain ⟨gx, rfl⟩ := own_some o2 (by decide)
      have HX2 := Lib.hid (Has.own o2)
      have HCX := Lib.hid (own_cap o2)
      have HCXM := Lib.hid (own_capmax o2)
      have HL2 := Lib.hid (HL1.out.trans l2)
      have C2 := Lib.hid (tagPut_any g' s' B m cb b w2 hgl hsl HM.out (HRB.out.later HL2.out) HNILB.out)
      clear h o2 l2 C1
      go_wp2_with fail
      refine C2.out.mono ?_
      intro e w3 h
      obtain ⟨A3, cz, rfl, o3, l3⟩ := h.yes HP2.out
      obtain ⟨gz, rfl⟩ := own_some o3 (by decide)
      have HL3 := Lib.hid (HL2.out.trans l3)
      have HX3 := Lib.hid (HX2.out.later l3)
      have HZ3 := Lib.hid (Has.own o3)
      have HCZ := Lib.hid (own_cap o3)
      have HCZM := Lib.hid (own_capmax o3)
      clear h l3 C2 HX2 HL2 o3
    · obtain ⟨gy, hgy⟩ : ∃ x, w3.heap.size = x := ⟨_, rfl⟩
      obtain ⟨wy, hwy⟩ : ∃ x, w3.alloc (.cells (madeCells #[.int .u8 0] 128) 5) = x := ⟨_, rfl⟩
      have hly := Later.new w3 (.cells (madeCells #[.int .u8 0] 128) 5)
      have hry := Row.made w3 5 .u8 128
      rw [hwy] at hly hry
      rw [hgy] at hry
      obtain ⟨cy, hcy⟩ : ∃ x : Nat, x = 128 := ⟨_, rfl⟩
      have HYY := Lib.hid (show Has wy (some ⟨gy, 0, none⟩) (ints .u8 y) from by rw [HY.out]; exact Has.row hry)
      have HCY := Lib.hid (show 128 ≤ cy by omega)
      have HCYM := Lib.hid (show cy ≤ 9223372036854775807 by omega)
      have HLY := Lib.hid (HL3.out.trans hly)
      have HXY := Lib.hid (HX3.out.later hly)
      have HC128 := Lib.hid hcy
      clear hly hry HL3 HX3 HZ3 HCZ HCZM hcy
      have hi1 : (0 : Int) ≤ (k : Int) := by omega
      have hi2 : (k : Int) ≤ 128 := by omega
      have hi3 : (k : Int) ≤ (cx : Int) := by have := HCX.out; omega
      have hi4 : (k : Int) ≤ (128 : Int) := by have := HCY.out; omega
      have hi5 : (128 : Int) ≤ (128 : Int) := by have := HCY.out; omega
      have hi6 : (128 : Int) - (k : Int) = ((128 - k : Nat) : Int) := by omega
      have hi7 : (128 : Int) - (k : Int) = ((128 - k : Nat) : Int) := by have := HCY.out; omega
      have L0 : Later wy (wy.alloc (.cells #[] 5)).drew := ((Later.refl wy).alloc _).drew
      have OWN := Lib.hid (show ((wy.alloc (.cells #[] 5)).drew).ownsRow wy.heap.size 5 1 (.slice (some ⟨wy.heap.size, 0, none⟩) 0 0) 0 [] from (Blk.new wy ([] : List Value).toArray 5 _ rfl).ownG (base := wy.heap.size) (size := 1) (n := 0) (Nat.le_refl _) rfl (by decide))
      have RX := Lib.hid (show Has _ (some ⟨gx, 0, none⟩) (ints .u8 ((tagB g s a).take k)) from by have h := (HXY.out.later L0).take k; rw [ints_take] at h; exact h)
      have HZ0 := Lib.hid L0.size
      have HL0 := Lib.hid L0
      clear L0
      by_cases hck : k < 128
      · have hcne : ¬ 128 = k := by omega
        have RYD := Lib.hid (show Has wy (some ⟨gy, k, none⟩) (ints .u8 (y.drop k)) from by have h := HYY.out.drop k; rw [Nat.zero_add] at h; simpa [ints, List.map_drop] using h)
        go_wp2_with fail
        first | (go_region_law (first
          | (refine step_append_rd (by rfl) (.tmp 94) (.tmp 97) 39 (by rfl) wy.heap.size 5 (.int .u8 0) 1 Tryd.underlying39 info_u8 rfl _ 0 [] (by rfl) OWN.out _ (some ⟨gx, 0, none⟩) k cx (ints .u8 ((tagB g s a).take k)) (by rfl) RX.out.rd ?_ ?_ (ints_one _ _) ?_ ?_ ?_ ?_; (rw [ints_length, List.length_take, HX128.out]; omega); (intro h; cases h); (unfold maxLen; omega); omega; (exact HZ0.out); intro A2 c2 w6 o2 g2 b2 n2; rw [Nat.zero_add] at o2 ⊢; rw [List.nil_append] at o2; have HO2 := Lib.hid o2; have HL6 := Lib.hid (show Later wy w6 from Below.trans HL0.out b2); have RY := Lib.hid (RYD.out.later HL6.out); have HZ6 := Lib.hid b2.size; clear o2 g2 b2 n2)
          | (refine step_append_rd (by rfl) (.tmp 98) (.tmp 101) 39 (by rfl) wy.heap.size 5 (.int .u8 0) 1 Tryd.underlying39 info_u8 rfl _ k (ints .u8 ((tagB g s a).take k)) (by rfl) HO2.out _ (some ⟨gy, k, none⟩) (128 - k) (128 - k) (ints .u8 (y.drop k)) (by rfl) RY.out.rd ?_ ?_ (ints_one _ _) ?_ ?_ ?_ ?_; (rw [ints_length, List.length_drop, HY128.out]); (intro h; cases h); (unfold maxLen; omega); omega; (exact HL6.out.size); intro A3 c3 w7 o3 g3 b3 n3; rw [show k + (128 - k) = 128 by omega] at o3 ⊢; have HT7 := Lib.hid (show Has w7 A3 (ints .u8 tt) from by have h := Has.own o3; rw [← ints_snoc, ← HTT.out] at h; exact h); have HC7 := Lib.hid (own_cap o3); have HM7 := Lib.hid (own_capmax o3); have HL7 := Lib.hid (show Later wy w7 from Later.of (HL6.out.below.trans b3)); clear o3 g3 b3 n3))) | fail "no walk"
        all_goals
          have HTKK := Lib.hid (tagTake_any g s A3 128 c3 tt w7 hg hsq HTL.out.symm HT7.out HT256.out (by rw [HTL.out]; decide) HC7.out HM7.out (HS.out.later (HLY.out.trans HL7.out)))
          rw [HTK.out] at HTKK
          clear OWN RX HZ0 HL0
          go_wp2_with fail
          by_cases he : tt = tagB g s a
          · rw [if_pos he] at HTKK
            refine HTKK.out.mono ?_
            rintro e w8 ⟨Z, cz, rfl, hz8, l8⟩
            have HL8 := Lib.hid (HLY.out.trans (HL7.out.trans l8))
            have hl1 : ((some a : Option (List Nat)).getD []).length = n := HN.out.symm
            have hl2 : (some a : Option (List Nat)).isSome = true := rfl
            rw [hl1, hl2]
            have cv1 := conv_str A3 128 c3 tt HTL.out.symm w8 _ (HT7.out.later l8)
            have cv2 := conv_str (some ⟨gx, 0, none⟩) 128 cx (tagB g s a) HX128.out.symm w8 _ (HXY.out.later (HL7.out.trans l8))
            have cv3 := conv_str Z n cz a HN.out w8 _ (show Has w8 Z (ints .u8 a) from hz8)
            have cv4 := conv_str A n c a HN.out w8 _ (HR.out.later HL8.out)
            rw [he] at cv1
            obtain ⟨S1, hS1⟩ : ∃ S, S = bstr (tagB g s a) := ⟨_, rfl⟩
            obtain ⟨S2, hS2⟩ : ∃ S, S = bstr a := ⟨_, rfl⟩
            rw [← hS1] at cv1 cv2
            rw [← hS2] at cv3 cv4
            have hs1 : (S1.toList == S1.toList) = true := by simp
            have hs2 : (S2.toList == S2.toList) = true := by simp
            clear hl1 hl2 hz8 l8 hS1 hS2 he HTKK
            go_wp2_with fail
            go_ret
            exact ⟨rfl, HL8.out⟩
          · rw [if_neg he] at HTKK
            refine HTKK.out.mono ?_
            rintro e w8 ⟨Z, cz, rfl, _, l8⟩
            have HL8 := Lib.hid (HLY.out.trans (HL7.out.trans l8))
            have hl1 : ((none : Option (List Nat)).getD []).length = 0 := rfl
            have hl2 : (none : Option (List Nat)).isSome = false := rfl
            rw [hl1, hl2]
            have cv1 := conv_str A3 128 c3 tt HTL.out.symm w8 _ (HT7.out.later l8)
            have cv2 := conv_str (some ⟨gx, 0, none⟩) 128 cx (tagB g s a) HX128.out.symm w8 _ (HXY.out.later (HL7.out.trans l8))
            have hss := bstr_ne HT256.out HX256.out he
            obtain ⟨S1, hS1⟩ : ∃ S, S = bstr tt := ⟨_, rfl⟩
            obtain ⟨S2, hS2⟩ : ∃ S, S = bstr (tagB g s a) := ⟨_, rfl⟩
            rw [← hS1] at cv1 hss
            rw [← hS2] at cv2 hss
            clear hl1 hl2 l8 hS1 hS2 he HTKK
            go_wp2_with fail
            go_ret
            exact ⟨rfl, HL8.out⟩
      · obtain rfl : k = 128 := by have := HCY.out; omega
        have hcz : 128 = 128 := by have := HCY.out; omega
        have hk2 : (at_ : Int) % 129 = 128 := hkk
        have hk3 : Int.tmod (at_ : Int) 129 = 128 := hkt
        have hj1 : (128 : Int) ≤ (cx : Int) := hi3
        have hj2 : 128 ≤ cx := HCX.out
        clear hkk hkt hi1 hi2 hi3 hi4 hi5 hi6 hi7 hck
        have RYD := Lib.hid (show Has wy (some ⟨gy, 0, none⟩) (ints .u8 (y.drop 128)) from by rw [List.drop_of_length_le (by rw [HY128.out]; exact Nat.le_refl _)]; exact .inl rfl)
        clear hcz
        go_wp2_with fail
        first | (go_region_law (first
          | (refine step_append_rd (by rfl) (.tmp 94) (.tmp 97) 39 (by rfl) wy.heap.size 5 (.int .u8 0) 1 Tryd.underlying39 info_u8 rfl _ 0 [] (by rfl) OWN.out _ (some ⟨gx, 0, none⟩) 128 cx (ints .u8 ((tagB g s a).take 128)) (by rfl) RX.out.rd ?_ ?_ (ints_one _ _) ?_ ?_ ?_ ?_; (rw [ints_length, List.length_take, HX128.out]; omega); (intro h; cases h); (unfold maxLen; omega); omega; (exact HZ0.out); intro A2 c2 w6 o2 g2 b2 n2; rw [Nat.zero_add] at o2 ⊢; rw [List.nil_append] at o2; have HO2 := Lib.hid o2; have HL6 := Lib.hid (show Later wy w6 from Below.trans HL0.out b2); have RY := Lib.hid (RYD.out.later HL6.out); have HZ6 := Lib.hid b2.size; clear o2 g2 b2 n2)
          | (refine step_append_rd (by rfl) (.tmp 98) (.tmp 101) 39 (by rfl) wy.heap.size 5 (.int .u8 0) 1 Tryd.underlying39 info_u8 rfl _ 128 (ints .u8 ((tagB g s a).take 128)) (by rfl) HO2.out _ (some ⟨gy, 0, none⟩) 0 0 (ints .u8 (y.drop 128)) (by rfl) RY.out.rd ?_ ?_ (ints_one _ _) ?_ ?_ ?_ ?_; (rw [ints_length, List.length_drop, HY128.out]); (intro h; cases h); (unfold maxLen; omega); omega; (exact HL6.out.size); intro A3 c3 w7 o3 g3 b3 n3; rw [show 128 + 0 = 128 by omega] at o3 ⊢; have HT7 := Lib.hid (show Has w7 A3 (ints .u8 tt) from by have h := Has.own o3; rw [← ints_snoc, ← HTT.out] at h; exact h); have HC7 := Lib.hid (own_cap o3); have HM7 := Lib.hid (own_capmax o3); have HL7 := Lib.hid (show Later wy w7 from Later.of (HL6.out.below.trans b3)); clear o3 g3 b3 n3))) | fail "no walk"
        all_goals
          have HTKK := Lib.hid (tagTake_any g s A3 128 c3 tt w7 hg hsq HTL.out.symm HT7.out HT256.out (by rw [HTL.out]; decide) HC7.out HM7.out (HS.out.later (HLY.out.trans HL7.out)))
          rw [HTK.out] at HTKK
          clear OWN RX HZ0 HL0
          go_wp2_with fail
          by_cases he : tt = tagB g s a
          · rw [if_pos he] at HTKK
            refine HTKK.out.mono ?_
            rintro e w8 ⟨Z, cz, rfl, hz8, l8⟩
            have HL8 := Lib.hid (HLY.out.trans (HL7.out.trans l8))
            have hl1 : ((some a : Option (List Nat)).getD []).length = n := HN.out.symm
            have hl2 : (some a : Option (List Nat)).isSome = true := rfl
            rw [hl1, hl2]
            have cv1 := conv_str A3 128 c3 tt HTL.out.symm w8 _ (HT7.out.later l8)
            have cv2 := conv_str (some ⟨gx, 0, none⟩) 128 cx (tagB g s a) HX128.out.symm w8 _ (HXY.out.later (HL7.out.trans l8))
            have cv3 := conv_str Z n cz a HN.out w8 _ (show Has w8 Z (ints .u8 a) from hz8)
            have cv4 := conv_str A n c a HN.out w8 _ (HR.out.later HL8.out)
            rw [he] at cv1
            obtain ⟨S1, hS1⟩ : ∃ S, S = bstr (tagB g s a) := ⟨_, rfl⟩
            obtain ⟨S2, hS2⟩ : ∃ S, S = bstr a := ⟨_, rfl⟩
            rw [← hS1] at cv1 cv2
            rw [← hS2] at cv3 cv4
            have hs1 : (S1.toList == S1.toList) = true := by simp
            have hs2 : (S2.toList == S2.toList) = true := by simp
            clear hl1 hl2 hz8 l8 hS1 hS2 he HTKK
            go_wp2_with fail
            go_ret
            exact ⟨rfl, HL8.out⟩
          · rw [if_neg he] at HTKK
            refine HTKK.out.mono ?_
            rintro e w8 ⟨Z, cz, rfl, _, l8⟩
            have HL8 := Lib.hid (HLY.out.trans (HL7.out.trans l8))
            have hl1 : ((none : Option (List Nat)).getD []).length = 0 := rfl
            have hl2 : (none : Option (List Nat)).isSome = false := rfl
            rw [hl1, hl2]
            have cv1 := conv_str A3 128 c3 tt HTL.out.symm w8 _ (HT7.out.later l8)
            have cv2 := conv_str (some ⟨gx, 0, none⟩) 128 cx (tagB g s a) HX128.out.symm w8 _ (HXY.out.later (HL7.out.trans l8))
            have hss := bstr_ne HT256.out HX256.out he
            obtain ⟨S1, hS1⟩ : ∃ S, S = bstr tt := ⟨_, rfl⟩
            obtain ⟨S2, hS2⟩ : ∃ S, S = bstr (tagB g s a) := ⟨_, rfl⟩
            rw [← hS1] at cv1 hss
            rw [← hS2] at cv2 hss
            clear hl1 hl2 l8 hS1 hS2 he HTKK
            go_wp2_with fail
            go_ret
            exact ⟨rfl, HL8.out⟩
    · obtain ⟨gy, hgy⟩ : ∃ x, w3.heap.size = x := ⟨_, rfl⟩
      obtain ⟨wy, hwy⟩ : ∃ x, w3.alloc (.cells (madeCells #[.int .u8 0] 128) 5) = x := ⟨_, rfl⟩
      have hly := Later.new w3 (.cells (madeCells #[.int .u8 0] 128) 5)
      have hry := Row.made w3 5 .u8 128
      rw [hwy] at hly hry
      rw [hgy] at hry
      obtain ⟨cy, hcy⟩ : ∃ x : Nat, x = 128 := ⟨_, rfl⟩
      have HYY := Lib.hid (show Has wy (some ⟨gy, 0, none⟩) (ints .u8 y) from by rw [HY.out]; exact Has.row hry)
      have HCY := Lib.hid (show 128 ≤ cy by omega)
      have HCYM := Lib.hid (show cy ≤ 9223372036854775807 by omega)
      have HLY := Lib.hid (HL3.out.trans hly)
      have HXY := Lib.hid (HX3.out.later hly)
      have HC128 := Lib.hid hcy
      clear hly hry HL3 HX3 HZ3 HCZ HCZM hcy
      have hi1 : (0 : Int) ≤ (k : Int) := by omega
      have hi2 : (k : Int) ≤ 128 := by omega
      have hi3 : (k : Int) ≤ (cx : Int) := by have := HCX.out; omega
      have hi4 : (k : Int) ≤ (128 : Int) := by have := HCY.out; omega
      have hi5 : (128 : Int) ≤ (128 : Int) := by have := HCY.out; omega
      have hi6 : (128 : Int) - (k : Int) = ((128 - k : Nat) : Int) := by omega
      have hi7 : (128 : Int) - (k : Int) = ((128 - k : Nat) : Int) := by have := HCY.out; omega
      have L0 : Later wy (wy.alloc (.cells #[] 5)).drew := ((Later.refl wy).alloc _).drew
      have OWN := Lib.hid (show ((wy.alloc (.cells #[] 5)).drew).ownsRow wy.heap.size 5 1 (.slice (some ⟨wy.heap.size, 0, none⟩) 0 0) 0 [] from (Blk.new wy ([] : List Value).toArray 5 _ rfl).ownG (base := wy.heap.size) (size := 1) (n := 0) (Nat.le_refl _) rfl (by decide))
      have RX := Lib.hid (show Has _ (some ⟨gx, 0, none⟩) (ints .u8 ((tagB g s a).take k)) from by have h := (HXY.out.later L0).take k; rw [ints_take] at h; exact h)
      have HZ0 := Lib.hid L0.size
      have HL0 := Lib.hid L0
      clear L0
      by_cases hck : k < 128
      · have hcne : ¬ 128 = k := by omega
        have RYD := Lib.hid (show Has wy (some ⟨gy, k, none⟩) (ints .u8 (y.drop k)) from by have h := HYY.out.drop k; rw [Nat.zero_add] at h; simpa [ints, List.map_drop] using h)
        go_wp2_with fail
        first | (go_region_law (first
          | (refine step_append_rd (by rfl) (.tmp 94) (.tmp 97) 39 (by rfl) wy.heap.size 5 (.int .u8 0) 1 Tryd.underlying39 info_u8 rfl _ 0 [] (by rfl) OWN.out _ (some ⟨gx, 0, none⟩) k cx (ints .u8 ((tagB g s a).take k)) (by rfl) RX.out.rd ?_ ?_ (ints_one _ _) ?_ ?_ ?_ ?_; (rw [ints_length, List.length_take, HX128.out]; omega); (intro h; cases h); (unfold maxLen; omega); omega; (exact HZ0.out); intro A2 c2 w6 o2 g2 b2 n2; rw [Nat.zero_add] at o2 ⊢; rw [List.nil_append] at o2; have HO2 := Lib.hid o2; have HL6 := Lib.hid (show Later wy w6 from Below.trans HL0.out b2); have RY := Lib.hid (RYD.out.later HL6.out); have HZ6 := Lib.hid b2.size; clear o2 g2 b2 n2)
          | (refine step_append_rd (by rfl) (.tmp 98) (.tmp 101) 39 (by rfl) wy.heap.size 5 (.int .u8 0) 1 Tryd.underlying39 info_u8 rfl _ k (ints .u8 ((tagB g s a).take k)) (by rfl) HO2.out _ (some ⟨gy, k, none⟩) (128 - k) (128 - k) (ints .u8 (y.drop k)) (by rfl) RY.out.rd ?_ ?_ (ints_one _ _) ?_ ?_ ?_ ?_; (rw [ints_length, List.length_drop, HY128.out]); (intro h; cases h); (unfold maxLen; omega); omega; (exact HL6.out.size); intro A3 c3 w7 o3 g3 b3 n3; rw [show k + (128 - k) = 128 by omega] at o3 ⊢; have HT7 := Lib.hid (show Has w7 A3 (ints .u8 tt) from by have h := Has.own o3; rw [← ints_snoc, ← HTT.out] at h; exact h); have HC7 := Lib.hid (own_cap o3); have HM7 := Lib.hid (own_capmax o3); have HL7 := Lib.hid (show Later wy w7 from Later.of (HL6.out.below.trans b3)); clear o3 g3 b3 n3))) | fail "no walk"
        all_goals
          have HTKK := Lib.hid (tagTake_any g s A3 128 c3 tt w7 hg hsq HTL.out.symm HT7.out HT256.out (by rw [HTL.out]; decide) HC7.out HM7.out (HS.out.later (HLY.out.trans HL7.out)))
          rw [HTK.out] at HTKK
          clear OWN RX HZ0 HL0
          go_wp2_with fail
          by_cases he : tt = tagB g s a
          · rw [if_pos he] at HTKK
            refine HTKK.out.mono ?_
            rintro e w8 ⟨Z, cz, rfl, hz8, l8⟩
            have HL8 := Lib.hid (HLY.out.trans (HL7.out.trans l8))
            have hl1 : ((some a : Option (List Nat)).getD []).length = n := HN.out.symm
            have hl2 : (some a : Option (List Nat)).isSome = true := rfl
            rw [hl1, hl2]
            have cv1 := conv_str A3 128 c3 tt HTL.out.symm w8 _ (HT7.out.later l8)
            have cv2 := conv_str (some ⟨gx, 0, none⟩) 128 cx (tagB g s a) HX128.out.symm w8 _ (HXY.out.later (HL7.out.trans l8))
            have cv3 := conv_str Z n cz a HN.out w8 _ (show Has w8 Z (ints .u8 a) from hz8)
            have cv4 := conv_str A n c a HN.out w8 _ (HR.out.later HL8.out)
            rw [he] at cv1
            obtain ⟨S1, hS1⟩ : ∃ S, S = bstr (tagB g s a) := ⟨_, rfl⟩
            obtain ⟨S2, hS2⟩ : ∃ S, S = bstr a := ⟨_, rfl⟩
            rw [← hS1] at cv1 cv2
            rw [← hS2] at cv3 cv4
            have hs1 : (S1.toList == S1.toList) = true := by simp
            have hs2 : (S2.toList == S2.toList) = true := by simp
            clear hl1 hl2 hz8 l8 hS1 hS2 he HTKK
            go_wp2_with fail
            go_ret
            exact ⟨rfl, HL8.out⟩
          · rw [if_neg he] at HTKK
            refine HTKK.out.mono ?_
            rintro e w8 ⟨Z, cz, rfl, _, l8⟩
            have HL8 := Lib.hid (HLY.out.trans (HL7.out.trans l8))
            have hl1 : ((none : Option (List Nat)).getD []).length = 0 := rfl
            have hl2 : (none : Option (List Nat)).isSome = false := rfl
            rw [hl1, hl2]
            have cv1 := conv_str A3 128 c3 tt HTL.out.symm w8 _ (HT7.out.later l8)
            have cv2 := conv_str (some ⟨gx, 0, none⟩) 128 cx (tagB g s a) HX128.out.symm w8 _ (HXY.out.later (HL7.out.trans l8))
            have hss := bstr_ne HT256.out HX256.out he
            obtain ⟨S1, hS1⟩ : ∃ S, S = bstr tt := ⟨_, rfl⟩
            obtain ⟨S2, hS2⟩ : ∃ S, S = bstr (tagB g s a) := ⟨_, rfl⟩
            rw [← hS1] at cv1 hss
            rw [← hS2] at cv2 hss
            clear hl1 hl2 l8 hS1 hS2 he HTKK
            go_wp2_with fail
            go_ret
            exact ⟨rfl, HL8.out⟩
      · obtain rfl : k = 128 := by have := HCY.out; omega
        have hcz : 128 = 128 := by have := HCY.out; omega
        have hk2 : (at_ : Int) % 129 = 128 := hkk
        have hk3 : Int.tmod (at_ : Int) 129 = 128 := hkt
        have hj1 : (128 : Int) ≤ (cx : Int) := hi3
        have hj2 : 128 ≤ cx := HCX.out
        clear hkk hkt hi1 hi2 hi3 hi4 hi5 hi6 hi7 hck
        have RYD := Lib.hid (show Has wy (some ⟨gy, 0, none⟩) (ints .u8 (y.drop 128)) from by rw [List.drop_of_length_le (by rw [HY128.out]; exact Nat.le_refl _)]; exact .inl rfl)
        clear hcz
        go_wp2_with fail
        first | (go_region_law (first
          | (refine step_append_rd (by rfl) (.tmp 94) (.tmp 97) 39 (by rfl) wy.heap.size 5 (.int .u8 0) 1 Tryd.underlying39 info_u8 rfl _ 0 [] (by rfl) OWN.out _ (some ⟨gx, 0, none⟩) 128 cx (ints .u8 ((tagB g s a).take 128)) (by rfl) RX.out.rd ?_ ?_ (ints_one _ _) ?_ ?_ ?_ ?_; (rw [ints_length, List.length_take, HX128.out]; omega); (intro h; cases h); (unfold maxLen; omega); omega; (exact HZ0.out); intro A2 c2 w6 o2 g2 b2 n2; rw [Nat.zero_add] at o2 ⊢; rw [List.nil_append] at o2; have HO2 := Lib.hid o2; have HL6 := Lib.hid (show Later wy w6 from Below.trans HL0.out b2); have RY := Lib.hid (RYD.out.later HL6.out); have HZ6 := Lib.hid b2.size; clear o2 g2 b2 n2)
          | (refine step_append_rd (by rfl) (.tmp 98) (.tmp 101) 39 (by rfl) wy.heap.size 5 (.int .u8 0) 1 Tryd.underlying39 info_u8 rfl _ 128 (ints .u8 ((tagB g s a).take 128)) (by rfl) HO2.out _ (some ⟨gy, 0, none⟩) 0 0 (ints .u8 (y.drop 128)) (by rfl) RY.out.rd ?_ ?_ (ints_one _ _) ?_ ?_ ?_ ?_; (rw [ints_length, List.length_drop, HY128.out]); (intro h; cases h); (unfold maxLen; omega); omega; (exact HL6.out.size); intro A3 c3 w7 o3 g3 b3 n3; rw [show 128 + 0 = 128 by omega] at o3 ⊢; have HT7 := Lib.hid (show Has w7 A3 (ints .u8 tt) from by have h := Has.own o3; rw [← ints_snoc, ← HTT.out] at h; exact h); have HC7 := Lib.hid (own_cap o3); have HM7 := Lib.hid (own_capmax o3); have HL7 := Lib.hid (show Later wy w7 from Later.of (HL6.out.below.trans b3)); clear o3 g3 b3 n3))) | fail "no walk"
        all_goals
          have HTKK := Lib.hid (tagTake_any g s A3 128 c3 tt w7 hg hsq HTL.out.symm HT7.out HT256.out (by rw [HTL.out]; decide) HC7.out HM7.out (HS.out.later (HLY.out.trans HL7.out)))
          rw [HTK.out] at HTKK
          clear OWN RX HZ0 HL0
          go_wp2_with fail
          by_cases he : tt = tagB g s a
          · rw [if_pos he] at HTKK
            refine HTKK.out.mono ?_
            rintro e w8 ⟨Z, cz, rfl, hz8, l8⟩
            have HL8 := Lib.hid (HLY.out.trans (HL7.out.trans l8))
            have hl1 : ((some a : Option (List Nat)).getD []).length = n := HN.out.symm
            have hl2 : (some a : Option (List Nat)).isSome = true := rfl
            rw [hl1, hl2]
            have cv1 := conv_str A3 128 c3 tt HTL.out.symm w8 _ (HT7.out.later l8)
            have cv2 := conv_str (some ⟨gx, 0, none⟩) 128 cx (tagB g s a) HX128.out.symm w8 _ (HXY.out.later (HL7.out.trans l8))
            have cv3 := conv_str Z n cz a HN.out w8 _ (show Has w8 Z (ints .u8 a) from hz8)
            have cv4 := conv_str A n c a HN.out w8 _ (HR.out.later HL8.out)
            rw [he] at cv1
            obtain ⟨S1, hS1⟩ : ∃ S, S = bstr (tagB g s a) := ⟨_, rfl⟩
            obtain ⟨S2, hS2⟩ : ∃ S, S = bstr a := ⟨_, rfl⟩
            rw [← hS1] at cv1 cv2
            rw [← hS2] at cv3 cv4
            have hs1 : (S1.toList == S1.toList) = true := by simp
            have hs2 : (S2.toList == S2.toList) = true := by simp
            clear hl1 hl2 hz8 l8 hS1 hS2 he HTKK
            go_wp2_with fail
            go_ret
            exact ⟨rfl, HL8.out⟩
          · rw [if_neg he] at HTKK
            refine HTKK.out.mono ?_
            rintro e w8 ⟨Z, cz, rfl, _, l8⟩
            have HL8 := Lib.hid (HLY.out.trans (HL7.out.trans l8))
            have hl1 : ((none : Option (List Nat)).getD []).length = 0 := rfl
            have hl2 : (none : Option (List Nat)).isSome = false := rfl
            rw [hl1, hl2]
            have cv1 := conv_str A3 128 c3 tt HTL.out.symm w8 _ (HT7.out.later l8)
            have cv2 := conv_str (some ⟨gx, 0, none⟩) 128 cx (tagB g s a) HX128.out.symm w8 _ (HXY.out.later (HL7.out.trans l8))
            have hss := bstr_ne HT256.out HX256.out he
            obtain ⟨S1, hS1⟩ : ∃ S, S = bstr tt := ⟨_, rfl⟩
            obtain ⟨S2, hS2⟩ : ∃ S, S = bstr (tagB g s a) := ⟨_, rfl⟩
            rw [← hS1] at cv1 hss
            rw [← hS2] at cv2 hss
            clear hl1 hl2 l8 hS1 hS2 he HTKK
            go_wp2_with fail
            go_ret
            exact ⟨rfl, HL8.out⟩
end Go.Proofs.YtnmldploafpbdaaDoor
