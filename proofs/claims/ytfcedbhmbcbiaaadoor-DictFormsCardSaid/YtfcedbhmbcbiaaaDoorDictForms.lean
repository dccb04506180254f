/- The walk of DictForms. -/
import Derived.Test.YtfcedbhmbcbiaaaDoorDictLaw
import Derived.Lib.SlBytesConst
namespace Go.Proofs.YtfcedbhmbcbiaaaDoor
open Go.RowKit
set_option linter.unusedVariables false

theorem Has.litF7 (w : World) (t : TypeId) (k : IntKind) (l : List Nat) (fz : Nat × Nat) : Has (w.alloc (.cells (ints k l).toArray t fz)) (some ⟨w.heap.size, 0, none⟩) (ints k l) :=
  .inr ⟨w.heap.size, 0, rfl, by simp, fun i v hv => by rw [Nat.zero_add, cell_of_row _ w.heap.size i (ints k l).toArray t fz (heap_alloc_new w _)]; simpa using hv⟩
def f7_0 : List Val3 := [(4, 0, ⟨#[98]⟩), (4, 0, ⟨#[97]⟩), (4, 0, ⟨#[98]⟩), (4, 0, ⟨#[99]⟩)]
theorem f7_0_64 : All64 f7_0 := by unfold All64 In64 f7_0; decide
theorem f7_0_is : putT 4 f7_0 = some [3, 1, 97, 1, 98, 1, 99, 145] := by decide
def f7_1 : List Val3 := [(3, 1, ⟨#[]⟩), (3, 1, ⟨#[]⟩)]
theorem f7_1_64 : All64 f7_1 := by unfold All64 In64 f7_1; decide
theorem f7_1_is : putT 3 f7_1 = some [1, 1] := by decide
def f7_2 : List Val3 := []
theorem f7_2_64 : All64 f7_2 := by unfold All64 In64 f7_2; decide
theorem f7_2_is : putT 2 f7_2 = some [0] := by decide
theorem f7_3_is : takeT 4 2 [2, 1, 98, 1, 97, 1] = none := by decide
theorem f7_4_is : takeT 4 1 [2, 1, 97, 1, 98, 0] = none := by decide
theorem f7_5_is : (takeT 4 1 [1, 1, 97]).isSome = true := by decide

set_option maxRecDepth 100000 in
set_option maxHeartbeats 4000000 in
theorem dictForms_walk (w : World) (hs : S6 w) : Calls Tryd.prog 4 #[] w fun e w' => e = .returned (.bool true) ∧ Later w w' := by
  have HB := Lib.hid (begun7_any w hs)
  have HS := Lib.hid hs
  clear hs
  have kc := fun (w : World) (C : Array Value) (n c : Nat) => Lib.run_convert_bytes_const (P := Tryd.prog) w 22 5 C n c Tryd.underlying22 Tryd.underlying5
  go_enter Tryd.func4, Tryd.ntmps4
  go_wp2_with fail
  refine HB.out.mono ?_
  rintro e w1 ⟨rfl, l⟩
  have HL1 := Lib.hid l
  have HS1 := Lib.hid (HS.out.later l)
  clear l HB HS
  have l := Later.new w1 (.cells (fl f7_0).toArray 34)
  have bx := (Blk.new w1 (fl f7_0).toArray 34 _ rfl).has
  have HC := Lib.hid (dictPut_any 4 (some ⟨w1.heap.size, 0, none⟩) 4 f7_0 _ (HS1.out.later l) (by decide) bx f7_0_64)
  have HLx := Lib.hid (HL1.out.trans l)
  have HSx := Lib.hid (HS1.out.later l)
  clear l bx HL1 HS1
  go_wp2_with fail
  refine HC.out.mono ?_
  intro e w2 h
  obtain ⟨A0, c0, rfl, r, _, _, _, l⟩ := h.yes f7_0_is
  have HL2 := Lib.hid (HLx.out.trans l)
  have HS2 := Lib.hid (HSx.out.later l)
  have K0 := r
  clear h l HC HLx HSx
  clear r
  have l := Later.new w2 (.cells (fl f7_1).toArray 34)
  have bx := (Blk.new w2 (fl f7_1).toArray 34 _ rfl).has
  have HC := Lib.hid (dictPut_any 3 (some ⟨w2.heap.size, 0, none⟩) 2 f7_1 _ (HS2.out.later l) (by decide) bx f7_1_64)
  have HLx := Lib.hid (HL2.out.trans l)
  have HSx := Lib.hid (HS2.out.later l)
  have K0 := K0.later (l)
  clear l bx HL2 HS2
  go_wp2_with fail
  refine HC.out.mono ?_
  intro e w3 h
  obtain ⟨A1, c1, rfl, r, _, _, _, l⟩ := h.yes f7_1_is
  have HL3 := Lib.hid (HLx.out.trans l)
  have HS3 := Lib.hid (HSx.out.later l)
  have K0 := K0.later (l)
  have K1 := r
  clear h l HC HLx HSx
  clear r
  have l := Later.refl w3
  have bx : Has w3 none (fl f7_2) := Has.nil_
  have HC := Lib.hid (dictPut_any 2 none 0 f7_2 _ (HS3.out.later l) (by decide) bx f7_2_64)
  have HLx := Lib.hid (HL3.out.trans l)
  have HSx := Lib.hid (HS3.out.later l)
  have K0 := K0.later (l)
  have K1 := K1.later (l)
  clear l bx HL3 HS3
  go_wp2_with fail
  refine HC.out.mono ?_
  intro e w4 h
  obtain ⟨A2, c2, rfl, r, _, _, _, l⟩ := h.yes f7_2_is
  have HL4 := Lib.hid (HLx.out.trans l)
  have HS4 := Lib.hid (HSx.out.later l)
  have K0 := K0.later (l)
  have K1 := K1.later (l)
  have K2 := r
  clear h l HC HLx HSx
  clear r
  have l := Later.new w4 (.cells (ints .u8 [2, 1, 98, 1, 97, 1]).toArray 5 (6, 7))
  have bx := Has.litF7 w4 5 .u8 [2, 1, 98, 1, 97, 1] (6, 7)
  have HC := Lib.hid (dictTake_any 4 2 (some ⟨w4.heap.size, 0, none⟩) 6 [2, 1, 98, 1, 97, 1] _ (HS4.out.later l) bx (by decide) (by decide) (by decide) (by decide))
  have HLx := Lib.hid (HL4.out.trans l)
  have HSx := Lib.hid (HS4.out.later l)
  have K0 := K0.later (l)
  have K1 := K1.later (l)
  have K2 := K2.later (l)
  clear l bx HL4 HS4
  go_wp2_with fail
  refine HC.out.mono ?_
  intro e w5 h
  obtain ⟨rfl, l⟩ := h.no f7_3_is
  have HL5 := Lib.hid (HLx.out.trans l)
  have HS5 := Lib.hid (HSx.out.later l)
  have K0 := K0.later (l)
  have K1 := K1.later (l)
  have K2 := K2.later (l)
  clear h l HC HLx HSx
  have l := Later.new w5 (.cells (ints .u8 [2, 1, 97, 1, 98, 0]).toArray 5 (6, 7))
  have bx := Has.litF7 w5 5 .u8 [2, 1, 97, 1, 98, 0] (6, 7)
  have HC := Lib.hid (dictTake_any 4 1 (some ⟨w5.heap.size, 0, none⟩) 6 [2, 1, 97, 1, 98, 0] _ (HS5.out.later l) bx (by decide) (by decide) (by decide) (by decide))
  have HLx := Lib.hid (HL5.out.trans l)
  have HSx := Lib.hid (HS5.out.later l)
  have K0 := K0.later (l)
  have K1 := K1.later (l)
  have K2 := K2.later (l)
  clear l bx HL5 HS5
  go_wp2_with fail
  refine HC.out.mono ?_
  intro e w6 h
  obtain ⟨rfl, l⟩ := h.no f7_4_is
  have HL6 := Lib.hid (HLx.out.trans l)
  have HS6 := Lib.hid (HSx.out.later l)
  have K0 := K0.later (l)
  have K1 := K1.later (l)
  have K2 := K2.later (l)
  clear h l HC HLx HSx
  have l := Later.new w6 (.cells (ints .u8 [1, 1, 97]).toArray 5 (3, 4))
  have bx := Has.litF7 w6 5 .u8 [1, 1, 97] (3, 4)
  have HC := Lib.hid (dictTake_any 4 1 (some ⟨w6.heap.size, 0, none⟩) 3 [1, 1, 97] _ (HS6.out.later l) bx (by decide) (by decide) (by decide) (by decide))
  have HLx := Lib.hid (HL6.out.trans l)
  have HSx := Lib.hid (HS6.out.later l)
  have K0 := K0.later (l)
  have K1 := K1.later (l)
  have K2 := K2.later (l)
  clear l bx HL6 HS6
  go_wp2_with fail
  refine HC.out.mono ?_
  intro e w7 h
  obtain ⟨m5, hm⟩ := Option.isSome_iff_exists.1 f7_5_is
  obtain ⟨A5, c5, rfl, r, l⟩ := h.yes hm
  have HL7 := Lib.hid (HLx.out.trans l)
  have HS7 := Lib.hid (HSx.out.later l)
  have K0 := K0.later (l)
  have K1 := K1.later (l)
  have K2 := K2.later (l)
  clear h l HC HLx HSx
  clear r hm
  have cv0 := conv_str A0 8 c0 [3, 1, 97, 1, 98, 1, 99, 145] rfl w7 _ K0
  rw [show bstr [3, 1, 97, 1, 98, 1, 99, 145] = (⟨#[3, 1, 97, 1, 98, 1, 99, 145]⟩ : ByteArray) from rfl] at cv0
  clear K0
  have cv1 := conv_str A1 2 c1 [1, 1] rfl w7 _ K1
  rw [show bstr [1, 1] = (⟨#[1, 1]⟩ : ByteArray) from rfl] at cv1
  clear K1
  have cv2 := conv_str A2 1 c2 [0] rfl w7 _ K2
  rw [show bstr [0] = (⟨#[0]⟩ : ByteArray) from rfl] at cv2
  clear K2
  go_wp2_with fail
  go_ret
  exact ⟨rfl, HL7.out⟩
end Go.Proofs.YtfcedbhmbcbiaaaDoor
