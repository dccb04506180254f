/- begun of law 1. -/
import Derived.Test.YtbmlipandjbbbaaDoorValGive
namespace Go.Proofs.YtbmlipandjbbbaaDoor
open Go.RowKit
set_option linter.unusedVariables false

set_option maxRecDepth 100000 in
set_option maxHeartbeats 1000000 in
theorem begun1_any (w : World) (hs : Sn w) : Calls Tryd.prog 11 #[] w fun e w' => e = .returned (.bool true) ∧ Later w w' := by
  have hm : MayV 1 (-2) (⟨#[]⟩ : ByteArray).size := by unfold MayV; decide
  obtain ⟨w1, hw1⟩ : ∃ w1 : World, w.alloc (.cells #[.int .i64 1, .int .i64 (-2), .string ⟨#[]⟩] 23) = w1 := ⟨_, rfl⟩
  have L1 : Later w w1 := hw1 ▸ Later.new _ _
  have V1 : Blk w1 w.heap.size #[.int .i64 1, .int .i64 (-2), .string ⟨#[]⟩] 23 := hw1 ▸ Blk.new w _ _ _ rfl
  have HW := Lib.hid hw1
  have HP := Lib.hid (valPut_l 1 (-2) ⟨#[]⟩ w1 (hs.later L1) hm)
  clear hw1
  go_enter Tryd.func11, Tryd.ntmps11
  go_wp2_with fail
  rw [HW.out]
  refine HP.out.mono ?_
  rintro e w2 ⟨A, c, rfl, r2, hc1, hc2, _, l2⟩
  have ep : putB 1 (-2) ⟨#[]⟩ = [1, 255, 254] := by decide
  rw [ep] at r2 hc1 ⊢
  have V2 := V1.later l2
  have L2 := L1.trans l2
  have HT := Lib.hid (valTake_any A c [1, 255, 254] w2 (hs.later L2) r2 (by decide) (by decide) hc1 hc2)
  clear HW HP V1 L1 l2 ep hc1 hc2
  go_wp2_with fail
  refine HT.out.mono ?_
  intro e w3 h
  have et : takeV [1, 255, 254] = some (1, -2, [], 3) := by decide
  obtain ⟨he, l3⟩ := h.yes et
  rw [show bstr [] = (⟨#[]⟩ : ByteArray) from rfl] at he
  subst he
  have V3 := V2.later l3
  have L3 := L2.trans l3
  have R3 := r2.later l3
  have X3 := Blk.new w3 #[.int .i64 1, .int .i64 (-2), .string ⟨#[]⟩] 23 _ rfl
  have l4 := Later.new w3 (.cells #[.int .i64 1, .int .i64 (-2), .string ⟨#[]⟩] 23)
  obtain ⟨w4, hw4⟩ : ∃ w4 : World, w3.alloc (.cells #[.int .i64 1, .int .i64 (-2), .string ⟨#[]⟩] 23) = w4 := ⟨_, rfl⟩
  rw [hw4] at X3 l4
  have HW := Lib.hid hw4
  have L4 := L3.trans l4
  have HT2 := Lib.hid (valTake_any none 0 [] w4 (hs.later L4) Has.nil_ (by simp) (by simp) (by simp) (by decide))
  clear HT V2 L2 l3 r2 hw4 et
  go_wp2_with fail
  rw [HW.out]
  refine HT2.out.mono ?_
  intro e w5 h
  obtain ⟨rfl, l5⟩ := h.no rfl
  have V5 := V3.later (l4.trans l5)
  have L5 := L4.trans l5
  have R5 := R3.later (l4.trans l5)
  have X5 := X3.later l5
  have l6 := Later.new w5 (.cells #[.int .i64 0, .int .i64 0, .string ⟨#[]⟩] 23)
  obtain ⟨w6, hw6⟩ : ∃ w6 : World, w5.alloc (.cells #[.int .i64 0, .int .i64 0, .string ⟨#[]⟩] 23) = w6 := ⟨_, rfl⟩
  rw [hw6] at l6
  have HW6 := Lib.hid hw6
  have L6 := L5.trans l6
  have V6 := V5.later l6
  have X6 := X5.later l6
  have hcv := conv_str A 3 c [1, 255, 254] rfl w6 _ (R5.later l6)
  rw [show bstr [1, 255, 254] = (⟨#[1, 255, 254]⟩ : ByteArray) from rfl, ← hw6] at hcv
  have x0 := X5.cell 0 _ rfl
  have x1 := X5.cell 1 _ rfl
  have x2 := X5.cell 2 _ rfl
  have y0 := V5.cell 0 _ rfl
  have y1 := V5.cell 1 _ rfl
  have y2 := V5.cell 2 _ rfl
  have zx := X5.lt
  have zy := V5.lt
  clear HW HT2 V3 L3 R3 X3 l4 L4 V5 L5 R5 X5 l6 hw6
  go_wp2_with fail
  rw [HW6.out]
  have S6 := hs.later L6
  refine (may_l 1 (-2) ⟨#[]⟩ w6 S6).mono ?_
  intro e w7 h
  obtain ⟨rfl, l7⟩ := h.yes hm
  have V7 := V6.later l7
  have S7 := S6.later l7
  have L7 := L6.trans l7
  have u0 := V7.cell 0 _ rfl
  have u1 := V7.cell 1 _ rfl
  have u2 := V7.cell 2 _ rfl
  clear hcv x0 x1 x2 y0 y1 y2 zx zy HW6 X6 V6 S6 L6 l7 h
  go_wp2_with fail
  refine (fits_l 1 1 (-2) ⟨#[]⟩ w7 S7).mono ?_
  intro e w8 h
  obtain ⟨rfl, l8⟩ := h.yes (by unfold FitsV MayV; decide)
  have V8 := V7.later l8
  have S8 := S7.later l8
  have L8 := L7.trans l8
  have s0 := V8.cell 0 _ rfl
  have s1 := V8.cell 1 _ rfl
  have s2 := V8.cell 2 _ rfl
  clear u0 u1 u2 V7 S7 L7 l8 h
  go_wp2_with fail
  refine (fits_l 2 1 (-2) ⟨#[]⟩ w8 S8).mono ?_
  intro e w9 h
  obtain ⟨rfl, l9⟩ := h.no (by unfold FitsV MayV; decide)
  have V9 := V8.later l9
  have L9 := L8.trans l9
  have t0 := V9.cell 0 _ rfl
  have t1 := V9.cell 1 _ rfl
  have t2 := V9.cell 2 _ rfl
  clear s0 s1 s2 V8 S8 L8 l9 h
  go_wp2_with fail
  refine (valCmp_any 1 (-2) ⟨#[]⟩ 0 0 ⟨#[]⟩ w9).mono ?_
  rintro e w10 ⟨rfl, l10⟩
  rw [show cmpV 1 (-2) ⟨#[]⟩ 0 0 ⟨#[]⟩ = 1 by decide]
  have L10 := L9.trans l10
  clear t0 t1 t2 V9 L9 l10
  go_wp2_with fail
  go_ret
  exact ⟨rfl, L10⟩
end Go.Proofs.YtbmlipandjbbbaaDoor
