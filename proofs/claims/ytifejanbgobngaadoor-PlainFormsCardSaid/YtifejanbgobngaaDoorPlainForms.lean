/- The walk of PlainForms. -/
import Derived.Test.YtifejanbgobngaaDoorPlainLaw
import Derived.Lib.SlBytesConst
namespace Go.Proofs.YtifejanbgobngaaDoor
open Go.RowKit
set_option linter.unusedVariables false

theorem Has.litF5 (w : World) (t : TypeId) (k : IntKind) (l : List Nat) (fz : Nat × Nat) : Has (w.alloc (.cells (ints k l).toArray t fz)) (some ⟨w.heap.size, 0, none⟩) (ints k l) :=
  .inr ⟨w.heap.size, 0, rfl, by simp, fun i v hv => by rw [Nat.zero_add, cell_of_row _ w.heap.size i (ints k l).toArray t fz (heap_alloc_new w _)]; simpa using hv⟩
def f5_0 : List Val3 := [(4, 0, ⟨#[97, 98]⟩), (4, 0, ⟨#[]⟩)]
theorem f5_0_64 : All64 f5_0 := by unfold All64 In64 f5_0; decide
theorem f5_0_is : putP 4 f5_0 = some [2, 97, 98, 0] := by decide
def f5_1 : List Val3 := [(1, (-1), ⟨#[]⟩), (1, 64, ⟨#[]⟩)]
theorem f5_1_64 : All64 f5_1 := by unfold All64 In64 f5_1; decide
theorem f5_1_is : putP 1 f5_1 = some [1, 128, 1] := by decide
def f5_2 : List Val3 := [(3, 1, ⟨#[]⟩), (3, 0, ⟨#[]⟩)]
theorem f5_2_64 : All64 f5_2 := by unfold All64 In64 f5_2; decide
theorem f5_2_is : putP 3 f5_2 = some [1, 0] := by decide
def f5_3 : List Val3 := [(1, 1, ⟨#[]⟩)]
theorem f5_3_64 : All64 f5_3 := by unfold All64 In64 f5_3; decide
theorem f5_3_is : putP 2 f5_3 = none := by decide
def f5_4 : List Val3 := []
theorem f5_4_64 : All64 f5_4 := by unfold All64 In64 f5_4; decide
theorem f5_4_is : putP 0 f5_4 = none := by decide
theorem f5_5_is : takeP 3 1 [2] = none := by decide
theorem f5_6_is : takeP 1 1 [128, 128, 4] = none := by decide
theorem f5_7_is : (takeP 1 1 [255, 255, 3]).isSome = true := by decide
theorem f5_8_is : takeP 5 0 [] = none := by decide
theorem f5_9_is : takeP 2 1001 [] = none := by decide
theorem f5_10_is : takeP 2 (-1) [] = none := by decide

set_option maxRecDepth 100000 in
set_option maxHeartbeats 4000000 in
theorem plainForms_walk (w : World) (hs : S6 w) : Calls Tryd.prog 6 #[] w fun e w' => e = .returned (.bool true) ∧ Later w w' := by
  have HB := Lib.hid (begun5_any w hs)
  have HS := Lib.hid hs
  clear hs
  have kc := fun (w : World) (C : Array Value) (n c : Nat) => Lib.run_convert_bytes_const (P := Tryd.prog) w 22 5 C n c Tryd.underlying22 Tryd.underlying5
  go_enter Tryd.func6, Tryd.ntmps6
  go_wp2_with fail
  refine HB.out.mono ?_
  rintro e w1 ⟨rfl, l⟩
  have HL1 := Lib.hid l
  have HS1 := Lib.hid (HS.out.later l)
  clear l HB HS
  have l := Later.new w1 (.cells (fl f5_0).toArray 26)
  have bx := (Blk.new w1 (fl f5_0).toArray 26 _ rfl).has
  have HC := Lib.hid (plainPut_any 4 (some ⟨w1.heap.size, 0, none⟩) 2 f5_0 _ (HS1.out.later l) (by decide) bx f5_0_64)
  have HLx := Lib.hid (HL1.out.trans l)
  have HSx := Lib.hid (HS1.out.later l)
  clear l bx HL1 HS1
  go_wp2_with fail
  refine HC.out.mono ?_
  intro e w2 h
  obtain ⟨A0, c0, rfl, r, _, _, _, l⟩ := h.yes f5_0_is
  have HL2 := Lib.hid (HLx.out.trans l)
  have HS2 := Lib.hid (HSx.out.later l)
  have K0 := r
  clear h l HC HLx HSx
  clear r
  have l := Later.new w2 (.cells (fl f5_1).toArray 26)
  have bx := (Blk.new w2 (fl f5_1).toArray 26 _ rfl).has
  have HC := Lib.hid (plainPut_any 1 (some ⟨w2.heap.size, 0, none⟩) 2 f5_1 _ (HS2.out.later l) (by decide) bx f5_1_64)
  have HLx := Lib.hid (HL2.out.trans l)
  have HSx := Lib.hid (HS2.out.later l)
  have K0 := K0.later (l)
  clear l bx HL2 HS2
  go_wp2_with fail
  refine HC.out.mono ?_
  intro e w3 h
  obtain ⟨A1, c1, rfl, r, _, _, _, l⟩ := h.yes f5_1_is
  have HL3 := Lib.hid (HLx.out.trans l)
  have HS3 := Lib.hid (HSx.out.later l)
  have K0 := K0.later (l)
  have K1 := r
  clear h l HC HLx HSx
  clear r
  have l := Later.new w3 (.cells (fl f5_2).toArray 26)
  have bx := (Blk.new w3 (fl f5_2).toArray 26 _ rfl).has
  have HC := Lib.hid (plainPut_any 3 (some ⟨w3.heap.size, 0, none⟩) 2 f5_2 _ (HS3.out.later l) (by decide) bx f5_2_64)
  have HLx := Lib.hid (HL3.out.trans l)
  have HSx := Lib.hid (HS3.out.later l)
  have K0 := K0.later (l)
  have K1 := K1.later (l)
  clear l bx HL3 HS3
  go_wp2_with fail
  refine HC.out.mono ?_
  intro e w4 h
  obtain ⟨A2, c2, rfl, r, _, _, _, l⟩ := h.yes f5_2_is
  have HL4 := Lib.hid (HLx.out.trans l)
  have HS4 := Lib.hid (HSx.out.later l)
  have K0 := K0.later (l)
  have K1 := K1.later (l)
  have K2 := r
  clear h l HC HLx HSx
  clear r
  have l := Later.new w4 (.cells (fl f5_3).toArray 26)
  have bx := (Blk.new w4 (fl f5_3).toArray 26 _ rfl).has
  have HC := Lib.hid (plainPut_any 2 (some ⟨w4.heap.size, 0, none⟩) 1 f5_3 _ (HS4.out.later l) (by decide) bx f5_3_64)
  have HLx := Lib.hid (HL4.out.trans l)
  have HSx := Lib.hid (HS4.out.later l)
  have K0 := K0.later (l)
  have K1 := K1.later (l)
  have K2 := K2.later (l)
  clear l bx HL4 HS4
  go_wp2_with fail
  refine HC.out.mono ?_
  intro e w5 h
  obtain ⟨rfl, l⟩ := h.no f5_3_is
  have HL5 := Lib.hid (HLx.out.trans l)
  have HS5 := Lib.hid (HSx.out.later l)
  have K0 := K0.later (l)
  have K1 := K1.later (l)
  have K2 := K2.later (l)
  clear h l HC HLx HSx
  have l := Later.refl w5
  have bx : Has w5 none (fl f5_4) := Has.nil_
  have HC := Lib.hid (plainPut_any 0 none 0 f5_4 _ (HS5.out.later l) (by decide) bx f5_4_64)
  have HLx := Lib.hid (HL5.out.trans l)
  have HSx := Lib.hid (HS5.out.later l)
  have K0 := K0.later (l)
  have K1 := K1.later (l)
  have K2 := K2.later (l)
  clear l bx HL5 HS5
  go_wp2_with fail
  refine HC.out.mono ?_
  intro e w6 h
  obtain ⟨rfl, l⟩ := h.no f5_4_is
  have HL6 := Lib.hid (HLx.out.trans l)
  have HS6 := Lib.hid (HSx.out.later l)
  have K0 := K0.later (l)
  have K1 := K1.later (l)
  have K2 := K2.later (l)
  clear h l HC HLx HSx
  have l := Later.new w6 (.cells (ints .u8 [2]).toArray 5)
  have bx := Has.lit w6 5 .u8 [2]
  have HC := Lib.hid (plainTake_any 3 1 (some ⟨w6.heap.size, 0, none⟩) 1 [2] _ (HS6.out.later l) bx (by decide) (by decide) (by decide) (by decide))
  have HLx := Lib.hid (HL6.out.trans l)
  have HSx := Lib.hid (HS6.out.later l)
  have K0 := K0.later (l)
  have K1 := K1.later (l)
  have K2 := K2.later (l)
  clear l bx HL6 HS6
  go_wp2_with fail
  refine HC.out.mono ?_
  intro e w7 h
  obtain ⟨rfl, l⟩ := h.no f5_5_is
  have HL7 := Lib.hid (HLx.out.trans l)
  have HS7 := Lib.hid (HSx.out.later l)
  have K0 := K0.later (l)
  have K1 := K1.later (l)
  have K2 := K2.later (l)
  clear h l HC HLx HSx
  have l := Later.new w7 (.cells (ints .u8 [128, 128, 4]).toArray 5 (3, 4))
  have bx := Has.litF5 w7 5 .u8 [128, 128, 4] (3, 4)
  have HC := Lib.hid (plainTake_any 1 1 (some ⟨w7.heap.size, 0, none⟩) 3 [128, 128, 4] _ (HS7.out.later l) bx (by decide) (by decide) (by decide) (by decide))
  have HLx := Lib.hid (HL7.out.trans l)
  have HSx := Lib.hid (HS7.out.later l)
  have K0 := K0.later (l)
  have K1 := K1.later (l)
  have K2 := K2.later (l)
  clear l bx HL7 HS7
  go_wp2_with fail
  refine HC.out.mono ?_
  intro e w8 h
  obtain ⟨rfl, l⟩ := h.no f5_6_is
  have HL8 := Lib.hid (HLx.out.trans l)
  have HS8 := Lib.hid (HSx.out.later l)
  have K0 := K0.later (l)
  have K1 := K1.later (l)
  have K2 := K2.later (l)
  clear h l HC HLx HSx
  have l := Later.new w8 (.cells (ints .u8 [255, 255, 3]).toArray 5 (3, 4))
  have bx := Has.litF5 w8 5 .u8 [255, 255, 3] (3, 4)
  have HC := Lib.hid (plainTake_any 1 1 (some ⟨w8.heap.size, 0, none⟩) 3 [255, 255, 3] _ (HS8.out.later l) bx (by decide) (by decide) (by decide) (by decide))
  have HLx := Lib.hid (HL8.out.trans l)
  have HSx := Lib.hid (HS8.out.later l)
  have K0 := K0.later (l)
  have K1 := K1.later (l)
  have K2 := K2.later (l)
  clear l bx HL8 HS8
  go_wp2_with fail
  refine HC.out.mono ?_
  intro e w9 h
  obtain ⟨m7, hm⟩ := Option.isSome_iff_exists.1 f5_7_is
  obtain ⟨A7, c7, rfl, r, l⟩ := h.yes hm
  have HL9 := Lib.hid (HLx.out.trans l)
  have HS9 := Lib.hid (HSx.out.later l)
  have K0 := K0.later (l)
  have K1 := K1.later (l)
  have K2 := K2.later (l)
  clear h l HC HLx HSx
  clear r hm
  have l := Later.refl w9
  have bx : Has w9 none (ints .u8 []) := Has.nil_
  have HC := Lib.hid (plainTake_any 5 0 none 0 [] _ (HS9.out.later l) bx (by decide) (by decide) (by decide) (by decide))
  have HLx := Lib.hid (HL9.out.trans l)
  have HSx := Lib.hid (HS9.out.later l)
  have K0 := K0.later (l)
  have K1 := K1.later (l)
  have K2 := K2.later (l)
  clear l bx HL9 HS9
  go_wp2_with fail
  refine HC.out.mono ?_
  intro e w10 h
  obtain ⟨rfl, l⟩ := h.no f5_8_is
  have HL10 := Lib.hid (HLx.out.trans l)
  have HS10 := Lib.hid (HSx.out.later l)
  have K0 := K0.later (l)
  have K1 := K1.later (l)
  have K2 := K2.later (l)
  clear h l HC HLx HSx
  have l := Later.refl w10
  have bx : Has w10 none (ints .u8 []) := Has.nil_
  have HC := Lib.hid (plainTake_any 2 1001 none 0 [] _ (HS10.out.later l) bx (by decide) (by decide) (by decide) (by decide))
  have HLx := Lib.hid (HL10.out.trans l)
  have HSx := Lib.hid (HS10.out.later l)
  have K0 := K0.later (l)
  have K1 := K1.later (l)
  have K2 := K2.later (l)
  clear l bx HL10 HS10
  go_wp2_with fail
  refine HC.out.mono ?_
  intro e w11 h
  obtain ⟨rfl, l⟩ := h.no f5_9_is
  have HL11 := Lib.hid (HLx.out.trans l)
  have HS11 := Lib.hid (HSx.out.later l)
  have K0 := K0.later (l)
  have K1 := K1.later (l)
  have K2 := K2.later (l)
  clear h l HC HLx HSx
  have l := Later.refl w11
  have bx : Has w11 none (ints .u8 []) := Has.nil_
  have HC := Lib.hid (plainTake_any 2 (-1) none 0 [] _ (HS11.out.later l) bx (by decide) (by decide) (by decide) (by decide))
  have HLx := Lib.hid (HL11.out.trans l)
  have HSx := Lib.hid (HS11.out.later l)
  have K0 := K0.later (l)
  have K1 := K1.later (l)
  have K2 := K2.later (l)
  clear l bx HL11 HS11
  go_wp2_with fail
  refine HC.out.mono ?_
  intro e w12 h
  obtain ⟨rfl, l⟩ := h.no f5_10_is
  have HL12 := Lib.hid (HLx.out.trans l)
  have HS12 := Lib.hid (HSx.out.later l)
  have K0 := K0.later (l)
  have K1 := K1.later (l)
  have K2 := K2.later (l)
  clear h l HC HLx HSx
  have cv0 := conv_str A0 4 c0 [2, 97, 98, 0] rfl w12 _ K0
  rw [show bstr [2, 97, 98, 0] = (⟨#[2, 97, 98, 0]⟩ : ByteArray) from rfl] at cv0
  clear K0
  have cv1 := conv_str A1 3 c1 [1, 128, 1] rfl w12 _ K1
  rw [show bstr [1, 128, 1] = (⟨#[1, 128, 1]⟩ : ByteArray) from rfl] at cv1
  clear K1
  have cv2 := conv_str A2 2 c2 [1, 0] rfl w12 _ K2
  rw [show bstr [1, 0] = (⟨#[1, 0]⟩ : ByteArray) from rfl] at cv2
  clear K2
  go_wp2_with fail
  go_ret
  exact ⟨rfl, HL12.out⟩
end Go.Proofs.YtifejanbgobngaaDoor
