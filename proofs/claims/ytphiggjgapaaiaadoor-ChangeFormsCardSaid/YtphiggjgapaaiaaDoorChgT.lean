/- The walk of law 16's begun. -/
import Derived.Test.YtphiggjgapaaiaaDoorChgS
namespace Go.Proofs.YtphiggjgapaaiaaDoor
open Go.RowKit
set_option linter.unusedVariables false

abbrev sA : ByteArray := ⟨#[97]⟩
abbrev sB : ByteArray := ⟨#[98]⟩
abbrev sXYZ : ByteArray := ⟨#[120, 58, 121, 58, 122]⟩
abbrev sX : ByteArray := ⟨#[120]⟩
abbrev sYZ : ByteArray := ⟨#[121, 58, 122]⟩
theorem cut_xyz : cutV (4, 0, sXYZ) 58 = ((4, 0, sX), (4, 0, sYZ)) := by
  have h : Lib.indexByte sXYZ.data.toList (58 : Nat).toUInt8 = 1 := by decide
  unfold cutV
  rw [if_pos ⟨rfl, by rw [h]; decide⟩, h]
  rfl
theorem may_text (s : ByteArray) (h : s.size ≤ 20) : FitsV 4 (4, 0, s) := ⟨by omega, .inr rfl, by show MayV 4 0 s.size; unfold MayV; omega⟩
theorem may_none (t : Int) (h : 1 ≤ t ∧ t ≤ 4) : FitsV t (0, 0, ⟨#[]⟩) := ⟨h, .inl rfl, by show MayV 0 0 0; unfold MayV; omega⟩
theorem fits_one (x : Col3) (v : Val3) (h : FitsV x.2.2 v) : FitsL [x] [v] := ⟨rfl, fun i h1 h2 => by
  have : i = 0 := by simp at h1; exact h1
  subst this; exact h⟩

set_option maxRecDepth 100000 in
set_option maxHeartbeats 4000000 in
theorem begun16_any (w : World) (hs : S3 w) : Calls Tryd.prog 7 #[] w fun e w' => e = .returned (.bool true) ∧ Later w w' := by
  obtain ⟨h0, hh0⟩ : ∃ x, w.heap.size = x := ⟨_, rfl⟩
  obtain ⟨w1, hw1⟩ : ∃ x : World, (w.alloc (.cells #[.int .i64 1, .string sA, .int .i64 4] 24)).alloc (.cells #[.slice (some ⟨h0, 0, none⟩) 1 1, .int .i64 1] 27) = x := ⟨_, rfl⟩
  obtain ⟨w3, hw3⟩ : ∃ x : World, w1.alloc (.cells #[.int .i64 4, .int .i64 0, .string sXYZ] 29) = x := ⟨_, rfl⟩
  have l1 : Later w w1 := hw1 ▸ (Later.new w _).alloc _
  have l3 : Later w1 w3 := hw3 ▸ Later.new w1 _
  have bc : Blk w1 h0 #[.int .i64 1, .string sA, .int .i64 4] 24 := hw1 ▸ (Blk.new w _ _ _ hh0.symm).later (Later.new _ _)
  have bs : Blk w1 (h0 + 1) #[.slice (some ⟨h0, 0, none⟩) 1 1, .int .i64 1] 27 := hw1 ▸ Blk.new _ _ _ _ (by simp; omega)
  have hs1 : w1.heap.size = h0 + 2 := by rw [← hw1, ← hh0]; simp
  have br : Blk w3 (h0 + 2) #[.int .i64 4, .int .i64 0, .string sXYZ] 29 := hw3 ▸ Blk.new w1 _ _ _ hs1.symm
  have HW3 := Lib.hid (show ((w.alloc (.cells #[.int .i64 1, .string sA, .int .i64 4] 24)).alloc (.cells #[.slice (some ⟨h0, 0, none⟩) 1 1, .int .i64 1] 27)).alloc (.cells #[.int .i64 4, .int .i64 0, .string sXYZ] 29) = w3 by rw [hw1, hw3])
  have HS := Lib.hid hs
  have HL3 := Lib.hid (l1.trans l3)
  have HV3 := Lib.hid (show Has w3 (some ⟨h0, 0, none⟩) (fc [(1, sA, 4)]) from (bc.later l3).has)
  have HBS3 := Lib.hid (bs.later l3)
  have HSPLIT := Lib.hid (row_split (some ⟨h0, 0, none⟩) (some ⟨h0 + 2, 0, none⟩) 1 1 1 1 1 [(1, sA, 4)] [(4, 0, sXYZ)] 1 sB 0 0 0 ⟨#[]⟩ 58 0 w3 (hs.later HL3.out) rfl rfl (by omega) (by omega) HV3.out br.has (by intro h; cases h) 0 rfl (fits_one _ _ (may_text _ (by decide))) (4, 0, sXYZ) rfl (by decide) _ cut_xyz rfl (by omega) [(4, 0, sX), (4, 0, sYZ)] rfl)
  clear hw1 hw3 l1 l3 bc bs br hs1 hs
  go_enter Tryd.func7, Tryd.ntmps7
  go_wp2_with fail
  rw [HW3.out]
  refine HSPLIT.out.mono ?_
  rintro e w4 ⟨A, c, rfl, o4, _, l4⟩
  have e4 : ([(4, 0, sX), (4, 0, sYZ)] : List Val3).length = 2 := rfl
  rw [e4] at o4 ⊢
  obtain ⟨g4, rfl⟩ := own_some o4 (by omega)
  have x2 := o4.cellAt 2 (by omega)
  have x5 := o4.cellAt 5 (by omega)
  have X2 := Lib.hid (show w4.cell? ⟨g4, 2, none⟩ = some (.string sX) from x2)
  have X5 := Lib.hid (show w4.cell? ⟨g4, 5, none⟩ = some (.string sYZ) from x5)
  have hb4 := HBS3.out.later l4
  have s0 := hb4.cell 0 _ rfl
  have s1 := hb4.cell 1 _ rfl
  obtain ⟨h4, hh4⟩ : ∃ x, w4.heap.size = x := ⟨_, rfl⟩
  obtain ⟨w5, hw5⟩ : ∃ x : World, w4.alloc (.cells #[.int .i64 0, .int .i64 0, .string ⟨#[]⟩] 29) = x := ⟨_, rfl⟩
  have l5 : Later w4 w5 := hw5 ▸ Later.new w4 _
  have b5 : Blk w5 h4 #[.int .i64 0, .int .i64 0, .string ⟨#[]⟩] 29 := hw5 ▸ Blk.new w4 _ _ _ hh4.symm
  have hs5 : w5.heap.size = h4 + 1 := by rw [← hw5, ← hh4]; simp
  obtain ⟨w6, hw6⟩ : ∃ x : World, w5.alloc (.cells #[.slice (some ⟨h4, 0, none⟩) 1 1] 31) = x := ⟨_, rfl⟩
  have l6 : Later w5 w6 := hw6 ▸ Later.new w5 _
  have b6 : Blk w6 (h4 + 1) #[.slice (some ⟨h4, 0, none⟩) 1 1] 31 := hw6 ▸ Blk.new w5 _ _ _ hs5.symm
  have HW6 := Lib.hid (show (w4.alloc (.cells #[.int .i64 0, .int .i64 0, .string ⟨#[]⟩] 29)).alloc (.cells #[.slice (some ⟨h4, 0, none⟩) 1 1] 31) = w6 by rw [hw5, hw6])
  have HL46 := Lib.hid (l5.trans l6)
  have HL6 := Lib.hid (HL3.out.trans (l4.trans (l5.trans l6)))
  have HV6 := Lib.hid (HV3.out.later (l4.trans (l5.trans l6)))
  have HB5 := Lib.hid (b5.later l6)
  have HRW := Lib.hid (chRows_any (some ⟨h0, 0, none⟩) (some ⟨h4 + 1, 0, none⟩) 1 1 1 1 1 8 0 ⟨#[]⟩ 0 0 0 ⟨#[]⟩ 0 0 [⟨some ⟨h4, 0, none⟩, 1, [(0, 0, ⟨#[]⟩)]⟩] (fun _ => true) w6 rfl (by omega) ⟨b6.has, fun s hs => by
      rw [List.mem_singleton] at hs
      subst hs
      exact ⟨HasX.of HB5.out.has, Nat.le_refl _, (by omega : (1 : Nat) ≤ 9223372036854775807), fun h => by cases h⟩⟩
    (fun i h W l => by
      have hi : i = 0 := by simp at h; exact h
      subst hi
      exact (row_same_none (some ⟨h0, 0, none⟩) (some ⟨h4, 0, none⟩) 1 1 1 1 1 [(1, sA, 4)] [(0, 0, ⟨#[]⟩)] 8 0 ⟨#[]⟩ 0 0 0 ⟨#[]⟩ 0 0 W (HS.out.later (HL6.out.trans l)) rfl rfl (by omega) (by omega) (HV6.out.later l) (HB5.out.later l).has (by intro h; cases h) rfl (fits_one _ _ (may_none 4 (by omega))) (by omega) (by omega) (by omega) (by omega)).mono fun e w' h => ⟨fun _ => ⟨_, h⟩, fun h => by cases h⟩))
  clear o4 l4 x2 x5 hb4 hw5 l5 b5 hs5 hw6 l6 b6 HSPLIT
  go_wp2_with fail
  rw [HW6.out]
  refine HRW.out.mono ?_
  rintro e w7 ⟨hyes, _, l7⟩
  obtain ⟨A7, c7, rfl⟩ := hyes fun _ _ => rfl
  have hb7 := (HBS3.out)
  have HL7 := Lib.hid (HL6.out.trans l7)
  have HL47 := Lib.hid (HL46.out.trans l7)
  have HNO := Lib.hid (row_nofit (some ⟨h0, 0, none⟩) none 1 1 0 0 1 [(1, sA, 4)] [] 8 0 ⟨#[]⟩ 0 0 0 ⟨#[]⟩ 0 0 w7 (HS.out.later HL7.out) rfl rfl (by omega) (by omega) (HV6.out.later l7) (.inl rfl) (fun _ => rfl) none rfl (fun h => by have := h.1; simp at this))
  have s0 := HL47.out.cell s0
  have s1 := HL47.out.cell s1
  clear hyes l7 HRW hb7
  go_wp2_with fail
  refine HNO.out.mono ?_
  rintro e w8 ⟨rfl, l8⟩
  have x2 := l8.cell (HL47.out.cell X2.out)
  have x5 := l8.cell (HL47.out.cell X5.out)
  have HL8 := Lib.hid (HL7.out.trans l8)
  clear HNO l8 s0 s1
  go_wp2_with fail
  go_ret
  exact ⟨rfl, HL8.out⟩
end Go.Proofs.YtphiggjgapaaiaaDoor
