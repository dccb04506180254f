/- The walk of TagAll. -/
import Derived.Test.YtnmldploafpbdaaDoorTagRef
import Derived.Test.YtnmldploafpbdaaDoorTagBack
namespace Go.Proofs.YtnmldploafpbdaaDoor
open Go.RowKit
set_option linter.unusedVariables false

set_option maxRecDepth 100000 in
theorem tagAll_long (g s : Int) (A : Option Addr) (n c : Nat) (B : Option Addr) (m cb : Nat) (w : World) (hs : S20 w) (h : ¬ (n ≤ 150 ∧ m ≤ 150)) :
    Calls Tryd.prog 6 #[.int .u32 g, .int .u32 s, .slice A n c, .slice B m cb] w fun e w' => e = .returned (.bool true) ∧ Later w w' := by
  have HB := Lib.hid (begun20_any w hs)
  clear hs
  go_enter Tryd.func6, Tryd.ntmps6
  go_wp2_with fail
  refine HB.out.mono ?_
  rintro e w1 ⟨rfl, l1⟩
  by_cases h1 : n ≤ 150
  · have d1 : decide ((150 : Int) < (n : Int)) = false := by simp; omega
    have d2 : decide ((150 : Int) < (m : Int)) = true := by simp; omega
    clear h
    go_wp2_with fail
    go_ret
    exact ⟨rfl, l1⟩
  · have d1 : decide ((150 : Int) < (n : Int)) = true := by simp; omega
    clear h
    go_wp2_with fail
    go_ret
    exact ⟨rfl, l1⟩

set_option maxRecDepth 100000 in
set_option maxHeartbeats 4000000 in
theorem tagAll_walk (g s : Nat) (A : Option Addr) (n c : Nat) (l : List Nat) (B : Option Addr) (m cb : Nat) (b : List Nat) (w : World) (hs : S20 w) (hg : g < 4294967296) (hsq : s < 4294967296) (hn : n = l.length) (hn150 : n ≤ 150) (hr : Has w A (ints .u8 l)) (h256 : ∀ x ∈ l, x < 256) (hnil : A = none → c = 0) (hm : m = b.length) (hm150 : m ≤ 150) (hrb : Has w B (ints .u8 b)) (hb256 : ∀ x ∈ b, x < 256) (hbc : m ≤ cb) (hcb : cb ≤ 9223372036854775807) :
    Calls Tryd.prog 6 #[.int .u32 g, .int .u32 s, .slice A n c, .slice B m cb] w fun e w' => e = .returned (.bool true) ∧ Later w w' := by
  have HB := Lib.hid (begun20_any w hs)
  have HS := Lib.hid hs
  have HR := Lib.hid hr
  have HRB := Lib.hid hrb
  have HN := Lib.hid hn
  have HM := Lib.hid hm
  have H256 := Lib.hid h256
  have HB256 := Lib.hid hb256
  have HNIL := Lib.hid hnil
  have d1 : decide ((150 : Int) < (n : Int)) = false := by simp; omega
  have d2 : decide ((150 : Int) < (m : Int)) = false := by simp; omega
  have hl9 : l.length ≤ 1000 := by omega
  have hb9 : b.length ≤ 1000 := by omega
  obtain ⟨q1, hq1⟩ : ∃ q, (putT20 g s l).getD [] = q := ⟨_, rfl⟩
  obtain ⟨r1, hr1⟩ : ∃ r, (putT20 g s l).isSome = r := ⟨_, rfl⟩
  obtain ⟨m1, hm1⟩ : ∃ m, q1.length = m := ⟨_, rfl⟩
  obtain ⟨q2, hq2⟩ : ∃ q, (takeT20 g s b).getD [] = q := ⟨_, rfl⟩
  obtain ⟨r2, hr2⟩ : ∃ r, (takeT20 g s b).isSome = r := ⟨_, rfl⟩
  obtain ⟨m2, hm2⟩ : ∃ m, q2.length = m := ⟨_, rfl⟩
  have HM1 := Lib.hid hm1
  have HM2 := Lib.hid hm2
  have C1 := Lib.hid (fun (X : Option Addr) (cx : Nat) w' (h : Has w' X (ints .u8 l)) (hx : X = none → cx = 0) => (tagPut_any g s X n cx l w' hg hsq hn h hx).mono fun _ _ h => h.takes.u hq1 hm1 hr1)
  have C2 := Lib.hid (fun (X : Option Addr) (cx : Nat) w' (h : Has w' X (ints .u8 l)) (hx : X = none → cx = 0) => (refPutTag_any g s X n cx l w' hg hsq hn h hx).mono fun _ _ h => h.takes.u hq1 hm1 hr1)
  have C3 := Lib.hid (fun (X : Option Addr) (cx : Nat) w' (h : Has w' X (ints .u8 b)) (h1 : m ≤ cx) (h2 : cx ≤ 9223372036854775807) (h3 : S20 w') => (tagTake_any g s X m cx b w' hg hsq hm h hb256 hb9 h1 h2 h3).mono fun _ _ h => h.u hq2 hm2 hr2)
  have C4 := Lib.hid (fun (X : Option Addr) (cx : Nat) w' (h : Has w' X (ints .u8 b)) (h1 : m ≤ cx) (h2 : cx ≤ 9223372036854775807) => (refTakeTag_any g s X m cx b w' hg hsq hm h hb256 hb9 h1 h2).mono fun _ _ h => h.u hq2 hm2 hr2)
  clear hs hr hrb hn hm h256 hb256 hnil hq1 hr1 hm1 hq2 hr2 hm2
  go_enter Tryd.func6, Tryd.ntmps6
  go_wp2_with fail
  refine HB.out.mono ?_
  rintro e w1 ⟨rfl, l1⟩
  have HL1 := Lib.hid l1
  have HH := Lib.hid (handed_any A n c l w1 HN.out (HR.out.later l1).rd hl9)
  clear l1 HB
  go_wp2_with fail
  refine HH.out.mono ?_
  rintro e w2 ⟨rfl, row2, b2⟩
  rw [← HN.out]
  obtain ⟨ga, hga⟩ : ∃ g, g = w1.heap.size := ⟨_, rfl⟩
  rw [← hga] at row2 ⊢
  have HL2 := Lib.hid (HL1.out.trans (Later.of b2))
  have HROW2 := Lib.hid row2
  have HH := Lib.hid (handed_any B m cb b w2 HM.out (HRB.out.later HL2.out).rd hb9)
  clear row2 b2 hga HL1
  go_wp2_with fail
  refine HH.out.mono ?_
  rintro e w3 ⟨rfl, row3, b3⟩
  rw [← HM.out]
  obtain ⟨gb, hgb⟩ : ∃ g, g = w2.heap.size := ⟨_, rfl⟩
  rw [← hgb] at row3 ⊢
  have HL23 := Lib.hid (Later.of b3)
  have HL3 := Lib.hid (HL2.out.trans (Later.of b3))
  have HROW3 := Lib.hid row3
  have HA3 := Lib.hid (show Has w3 (some ⟨ga, 0, none⟩) (ints .u8 l) from by
    have h := (HL23.out.row HROW2.out).rd.take l.length
    rw [ints_take, List.take_left] at h
    exact h)
  have HB3 := Lib.hid (show Has w3 (some ⟨gb, 0, none⟩) (ints .u8 b) from by
    have h := HROW3.out.rd.take b.length
    rw [ints_take, List.take_left] at h
    exact h)
  clear row3 b3 hgb HL2 HH
  go_wp2_with fail
  refine (C1.out (some ⟨ga, 0, none⟩) (n + 5) w3 HA3.out (by intro h; cases h)).mono ?_
  rintro e w4 ⟨X1, x1, rfl, h1, l4⟩
  have P1 := Lib.hid h1
  have HL4 := Lib.hid (HL3.out.trans l4)
  have HL34 := Lib.hid l4
  clear h1 l4 C1 HA3
  go_wp2_with fail
  refine (C2.out A c w4 (HR.out.later HL4.out) HNIL.out).mono ?_
  rintro e w5 ⟨X2, x2, rfl, h2, l5⟩
  have P1 := Lib.hid (P1.out.later l5)
  have P2 := Lib.hid h2
  have HL5 := Lib.hid (HL4.out.trans l5)
  have HL35 := Lib.hid (HL34.out.trans l5)
  clear h2 l5 C2 HL4 HL34
  go_wp2_with fail
  refine (C3.out (some ⟨gb, 0, none⟩) (m + 5) w5 (HB3.out.later HL35.out) (by omega) (by omega) (HS.out.later HL5.out)).mono ?_
  rintro e w6 ⟨X3, x3, rfl, h3, l6⟩
  have P1 := Lib.hid (P1.out.later l6)
  have P2 := Lib.hid (P2.out.later l6)
  have P3 := Lib.hid h3
  have HL6 := Lib.hid (HL5.out.trans l6)
  have HL36 := Lib.hid (HL35.out.trans l6)
  clear h3 l6 C3 HL5 HL35 HB3
  go_wp2_with fail
  refine (C4.out B cb w6 (HRB.out.later HL6.out) hbc hcb).mono ?_
  rintro e w7 ⟨X4, x4, rfl, h4, l7⟩
  have P1 := P1.out.later l7
  have P2 := P2.out.later l7
  have P3 := P3.out.later l7
  have HL7 := Lib.hid (HL6.out.trans l7)
  have HL37 := Lib.hid (HL36.out.trans l7)
  have cv1 := conv_str X1 m1 x1 q1 HM1.out.symm w7 _ P1
  have cv2 := conv_str X2 m1 x2 q1 HM1.out.symm w7 _ P2
  have cv3 := conv_str X3 m2 x3 q2 HM2.out.symm w7 _ P3
  have cv4 := conv_str X4 m2 x4 q2 HM2.out.symm w7 _ h4
  obtain ⟨S1, hS1⟩ : ∃ S, S = bstr q1 := ⟨_, rfl⟩
  obtain ⟨S2, hS2⟩ : ∃ S, S = bstr q2 := ⟨_, rfl⟩
  rw [← hS1] at cv1 cv2
  rw [← hS2] at cv3 cv4
  have hs1 : (S1.toList == S1.toList) = true := by simp
  have hs2 : (S2.toList == S2.toList) = true := by simp
  have hr1 : (r1 == r1) = true := by simp
  have hr2 : (r2 == r2) = true := by simp
  have HSA := Lib.hid (same_any ga A n c (n + 5) l w7 HN.out (by rw [HN.out]) ((HL23.out.trans HL37.out).row HROW2.out) (HR.out.later HL7.out).rd hl9)
  have HSB := Lib.hid (same_any gb B m cb (m + 5) b w7 HM.out (by rw [HM.out]) (HL37.out.row HROW3.out) (HRB.out.later HL7.out).rd hb9)
  clear P1 P2 P3 h4 l7 C4 hS1 hS2 HL6 HL36
  go_wp2_with fail
  refine HSA.out.mono ?_
  rintro e w' ⟨rfl, rfl⟩
  go_wp2_with fail
  refine HSB.out.mono ?_
  rintro e w' ⟨rfl, rfl⟩
  go_wp2_with fail
  go_ret
  exact ⟨rfl, HL7.out⟩
end Go.Proofs.YtnmldploafpbdaaDoor
