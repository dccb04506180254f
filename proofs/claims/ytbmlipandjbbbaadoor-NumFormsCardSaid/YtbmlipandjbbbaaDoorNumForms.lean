/- The walk of NumForms. -/
import Derived.Test.YtbmlipandjbbbaaDoorNumLawA
import Derived.Test.YtbmlipandjbbbaaDoorConv
import Derived.Test.YtbmlipandjbbbaaDoorSent
import Derived.Deep.RegionWith
namespace Go.Proofs.YtbmlipandjbbbaaDoor
open Go.RowKit
set_option linter.unusedVariables false

def formsU : List Nat := [0, 127, 128, 16383, 16384, 18446744073709551615]
def formsNo : List (List Nat) := [[], [128], [128, 0], [255, 255, 255, 255, 255, 255, 255, 255, 255, 2], [255, 255, 255, 255, 255, 255, 255, 255, 255, 255, 1]]
theorem forms_u : ∀ j, j < 6 → ∃ u, formsU[j]? = some u ∧ u < 18446744073709551616
  | 0, _ | 1, _ | 2, _ | 3, _ | 4, _ | 5, _ => ⟨_, rfl, by decide⟩
  | j + 6, h => by omega
theorem forms_no : ∀ j, j < 5 → ∃ l, formsNo[j]? = some l ∧ (∀ x ∈ l, x < 256) ∧ l.length ≤ 1000000 ∧ takeR l = (0, 0, false)
  | 0, _ | 1, _ | 2, _ | 3, _ | 4, _ => ⟨_, rfl, by decide, by decide, by decide⟩
  | j + 5, h => by omega

set_option maxRecDepth 100000 in
set_option maxHeartbeats 2000000 in
theorem numForms_walk (a : Addr) (w : World) (hs : Sent w w.heap.size a) : Calls Tryd.prog 10 #[] w fun e w' => e = .returned (.bool true) ∧ Below w.heap.size w w' := by
  have HS := Lib.hid hs
  clear hs
  go_enter Tryd.func10, Tryd.ntmps10
  go_wp2_with fail
  refine (begun2_any a w HS.out).mono ?_
  rintro e wb ⟨rfl, bb⟩
  have BB := Lib.hid bb
  have zb := bb.size
  clear bb
  go_wp2_with fail
  obtain ⟨w3, hw3⟩ : ∃ w3 : World, (wb.alloc (.cells #[.int .u64 0, .int .u64 127, .int .u64 128, .int .u64 16383, .int .u64 16384, .int .u64 18446744073709551615] 39)).alloc (.cells #[.string { data := #[0] }, .string { data := #[127] }, .string { data := #[128, 1] }, .string { data := #[255, 127] }, .string { data := #[128, 128, 1] }, .string { data := #[255, 255, 255, 255, 255, 255, 255, 255, 255, 1] }] 9) = w3 := ⟨_, rfl⟩
  rw [hw3]
  have hcells : ∀ j, j < 6 → ∃ u, u < 18446744073709551616 ∧ w3.cell? ⟨wb.heap.size, j, none⟩ = some (.int .u64 ((u : Nat) : Int)) ∧ w3.cell? ⟨wb.heap.size + 1, j, none⟩ = some (.string (bstr (putNum u))) := by
    intro j hj
    rw [← hw3, World.cell?_alloc_past _ _ _ (by simp), World.cell?_alloc_at _ _ _ _ rfl, World.cell?_alloc_at _ _ _ _ (by simp)]
    match j, hj with
    | 0, _ => exact ⟨0, by decide, rfl, rfl⟩
    | 1, _ => exact ⟨127, by decide, rfl, rfl⟩
    | 2, _ => exact ⟨128, by decide, rfl, rfl⟩
    | 3, _ => exact ⟨16383, by decide, rfl, rfl⟩
    | 4, _ => exact ⟨16384, by decide, rfl, rfl⟩
    | 5, _ => exact ⟨18446744073709551615, by decide, rfl, rfl⟩
  have hb3 : Below wb.heap.size wb w3 := by
    rw [← hw3]; exact ((Below.refl _ _).alloc (Nat.le_refl _) _).alloc (by simp) _
  have z3 : wb.heap.size + 1 < w3.heap.size := by rw [← hw3]; simp
  have S3 := Lib.hid (((HS.out.below BB.out).more (B' := wb.heap.size) zb).below hb3)
  have B3 := Lib.hid (BB.out.trans (hb3.mono zb))
  have HC := Lib.hid hcells
  clear hw3 hcells hb3 BB
  go_loopw [3] (fun i wr => ∃ j : Nat, j ≤ 6 ∧ i = .int .i64 j ∧ Below w3.heap.size w3 wr) (fun i _ => 6 - (intOf i).toNat)
  case atStart => exact ⟨0, by omega, rfl, Below.refl _ _⟩
  case round =>
    obtain ⟨j, hj, rfl, hbel⟩ := hrel
    have HB := Lib.hid hbel
    have hz := hbel.size
    by_cases hlt : j < 6
    · obtain ⟨u, hu, c1, c2⟩ := HC.out j hlt
      have hc1 := (hbel.cell (p := ⟨wb.heap.size, j, none⟩) (by show wb.heap.size < _; omega)).trans c1
      have hc2 := (hbel.cell (p := ⟨wb.heap.size + 1, j, none⟩) (by show wb.heap.size + 1 < _; omega)).trans c2
      obtain ⟨S, hS⟩ : ∃ S, S = bstr (putNum u) := ⟨_, rfl⟩
      rw [← hS] at c2 hc2
      have HSS := Lib.hid hS
      have HC2 := Lib.hid c2
      have hss : (S.toList == S.toList) = true := by simp
      clear hS c1 c2 hbel
      go_wp2_with fail
      go_region_with (first
        | (go_at_call 27; refine (put_makes u hu _).mono ?_; rintro e w5 ⟨P, cp, rfl, o1, b1, n1⟩; have hcv1 := run_cv P (putNum u).length cp (putNum u) rfl w5 _ (Rd.own o1); rw [← HSS.out] at hcv1; have B5 := Lib.hid (HB.out.trans ((show Below wr.heap.size wr w5 from ((Below.refl _ _).drew).trans b1).mono hz)); have hc3 := (B5.out.cell (p := ⟨wb.heap.size + 1, j, none⟩) z3).trans HC2.out; clear o1 b1 n1))
      all_goals go_wp2_with fail
      all_goals go_roundw
      all_goals first | exact ⟨j + 1, hlt, by go_num, B5.out⟩ | (simp [intOf]; omega)
    · clear hbel
      go_wp2_with fail
      obtain ⟨w4, hw4⟩ : ∃ w4 : World, wr.alloc (.cells #[.string { data := #[] }, .string { data := #[128] }, .string { data := #[128, 0] }, .string { data := #[255, 255, 255, 255, 255, 255, 255, 255, 255, 2] }, .string { data := #[255, 255, 255, 255, 255, 255, 255, 255, 255, 255, 1] }] 9) = w4 := ⟨_, rfl⟩
      rw [hw4]
      have hcells : ∀ j, j < 5 → ∃ l, (∀ x ∈ l, x < 256) ∧ l.length ≤ 1000000 ∧ takeR l = (0, 0, false) ∧ w4.cell? ⟨wr.heap.size, j, none⟩ = some (.string (bstr l)) := by
        intro j hj
        rw [← hw4, World.cell?_alloc_at _ _ _ _ rfl]
        match j, hj with
        | 0, _ => exact ⟨[], by decide, by decide, by decide, rfl⟩
        | 1, _ => exact ⟨[128], by decide, by decide, by decide, rfl⟩
        | 2, _ => exact ⟨[128, 0], by decide, by decide, by decide, rfl⟩
        | 3, _ => exact ⟨[255, 255, 255, 255, 255, 255, 255, 255, 255, 2], by decide, by decide, by decide, rfl⟩
        | 4, _ => exact ⟨[255, 255, 255, 255, 255, 255, 255, 255, 255, 255, 1], by decide, by decide, by decide, rfl⟩
      have hb4 : Below wr.heap.size wr w4 := by
        rw [← hw4]; exact (Below.refl _ _).alloc (Nat.le_refl _) _
      have z4 : wr.heap.size < w4.heap.size := by rw [← hw4]; simp
      have hbw : Below wb.heap.size w3 w4 := (HB.out.trans (hb4.mono hz)).mono (by omega)
      have S4 := Lib.hid ((S3.out.below hbw).more (B' := w4.heap.size) (by omega))
      have B4 := Lib.hid (B3.out.trans ((HB.out.trans (hb4.mono hz)).mono B3.out.size))
      have zw : w.heap.size ≤ w4.heap.size := B4.out.size
      have HC4 := Lib.hid hcells
      obtain ⟨g3, hg3⟩ : ∃ g3, g3 = wr.heap.size := ⟨_, rfl⟩
      rw [← hg3] at HC4 z4 ⊢
      clear hw4 hcells hb4 hbw B3 S3 HC HB hg3 hz
      go_loopw [5] (fun i w9 => ∃ j : Nat, j ≤ 5 ∧ i = .int .i64 j ∧ Below w4.heap.size w4 w9) (fun i _ => 5 - (intOf i).toNat)
      case atStart => exact ⟨0, by omega, rfl, Below.refl _ _⟩
      case round =>
        obtain ⟨t, ht, rfl, hbel⟩ := hrel
        have HB := Lib.hid hbel
        have hz9 := hbel.size
        by_cases hlt : t < 5
        · obtain ⟨l, h256, hl6, hT, hc⟩ := HC4.out t hlt
          have hc9 := (hbel.cell (p := ⟨g3, t, none⟩) z4).trans hc
          obtain ⟨w5, c5, hcv, hrd, hb5⟩ := conv_bytes l h256 wr
          obtain ⟨T, hTe⟩ : ∃ T, T = bstr l := ⟨_, rfl⟩
          rw [← hTe] at hcv hc9
          have HCALL := Lib.hid (take_num (some ⟨wr.heap.size, 0, none⟩) l.length c5 l a w5 _ rfl hrd h256 hl6 (((((S4.out.below hbel).more hz9).below hb5).more hb5.size)))
          have B5 := Lib.hid (HB.out.trans (hb5.mono hz9))
          have z5 := hb5.size
          have HT := Lib.hid hT
          clear hTe hrd hb5 hc hT hbel HC4
          go_wp2_with fail
          refine HCALL.out.mono ?_
          rintro e w6 ⟨v6, n6, ok6, hR, rfl, b6⟩
          rw [HT.out] at hR
          obtain ⟨rfl, rfl, rfl⟩ : v6 = 0 ∧ n6 = 0 ∧ ok6 = false := by
            injection hR with h1 h2; injection h2 with h2 h3; exact ⟨h1.symm, h2.symm, h3.symm⟩
          have B6 := Lib.hid (B5.out.trans (b6.mono (by omega)))
          clear hR b6 HCALL B5
          go_wp2_with fail
          go_roundw
          case rel => exact ⟨t + 1, hlt, by go_num, B6.out⟩
          case measure => simp [intOf]; omega
        · have e1 : ((zig 0 : Nat) : Int) = 0 := by decide
          have e2 : ((zig 1 : Nat) : Int) = 2 := by decide
          have e3 : ((zig (-2) : Nat) : Int) = 3 := by decide
          have e4 : ((zig (-9223372036854775808) : Nat) : Int) = 18446744073709551615 := by decide
          have e5 : ((zig 9223372036854775807 : Nat) : Int) = 18446744073709551614 := by decide
          have e6 : zag 18446744073709551615 = -9223372036854775808 := by decide
          have BF := Lib.hid (B4.out.trans (HB.out.mono zw))
          clear hbel HC4 HB B4
          go_wp2_with fail
          refine (zig_any 0 _ (by decide) (by decide)).mono ?_
          rintro e w' ⟨rfl, rfl⟩
          rw [e1]
          go_wp2_with fail
          refine (zig_any 1 _ (by decide) (by decide)).mono ?_
          rintro e w' ⟨rfl, rfl⟩
          rw [e2]
          go_wp2_with fail
          refine (zig_any (-2) _ (by decide) (by decide)).mono ?_
          rintro e w' ⟨rfl, rfl⟩
          rw [e3]
          go_wp2_with fail
          refine (zig_any (-9223372036854775808) _ (by decide) (by decide)).mono ?_
          rintro e w' ⟨rfl, rfl⟩
          rw [e4]
          go_wp2_with fail
          refine (zig_any 9223372036854775807 _ (by decide) (by decide)).mono ?_
          rintro e w' ⟨rfl, rfl⟩
          rw [e5]
          go_wp2_with fail
          refine (zag_any 18446744073709551615 _ (by decide)).mono ?_
          rintro e w' ⟨rfl, rfl⟩
          rw [e6]
          go_wp2_with fail
          go_ret
          exact ⟨rfl, BF.out⟩
end Go.Proofs.YtbmlipandjbbbaaDoor
