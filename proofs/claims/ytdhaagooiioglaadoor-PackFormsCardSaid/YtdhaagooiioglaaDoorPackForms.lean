/- The walk of PackForms. -/
import Derived.Test.YtdhaagooiioglaaDoorPackLaw
import Derived.Lib.SlBytesConst
namespace Go.Proofs.YtdhaagooiioglaaDoor
open Go.RowKit
set_option linter.unusedVariables false

theorem Has.litF8 (w : World) (t : TypeId) (k : IntKind) (l : List Nat) (fz : Nat × Nat) : Has (w.alloc (.cells (ints k l).toArray t fz)) (some ⟨w.heap.size, 0, none⟩) (ints k l) :=
  .inr ⟨w.heap.size, 0, rfl, by simp, fun i v hv => by rw [Nat.zero_add, cell_of_row _ w.heap.size i (ints k l).toArray t fz (heap_alloc_new w _)]; simpa using hv⟩
def f8_0 : List Val3 := [(2, 5, ⟨#[]⟩), (2, 5, ⟨#[]⟩)]
theorem f8_0_64 : All64 f8_0 := by unfold All64 In64 f8_0; decide
theorem f8_0_is : putK 2 f8_0 = some [10, 0] := by decide
def f8_1 : List Val3 := [(1, (-3), ⟨#[]⟩), (1, 4, ⟨#[]⟩), (1, 0, ⟨#[]⟩)]
theorem f8_1_64 : All64 f8_1 := by unfold All64 In64 f8_1; decide
theorem f8_1_is : putK 1 f8_1 = some [5, 3, 248, 0] := by decide
def f8_2 : List Val3 := [(2, (-9223372036854775808), ⟨#[]⟩), (2, 9223372036854775807, ⟨#[]⟩)]
theorem f8_2_64 : All64 f8_2 := by unfold All64 In64 f8_2; decide
theorem f8_2_is : putK 2 f8_2 = some [255, 255, 255, 255, 255, 255, 255, 255, 255, 1, 64, 0, 0, 0, 0, 0, 0, 0, 0, 255, 255, 255, 255, 255, 255, 255, 255] := by decide
def f8_3 : List Val3 := []
theorem f8_3_64 : All64 f8_3 := by unfold All64 In64 f8_3; decide
theorem f8_3_is : putK 3 f8_3 = some [] := by decide
theorem f8_4_is : takeK 1 1 [128, 128, 4, 0] = none := by decide
theorem f8_5_is : takeK 2 1 [2, 1, 1] = none := by decide
theorem f8_6_is : takeK 3 2 [2, 1, 2] = none := by decide

set_option maxRecDepth 100000 in
set_option maxHeartbeats 4000000 in
theorem packForms_walk (w : World) (hs : S6 w) : Calls Tryd.prog 6 #[] w fun e w' => e = .returned (.bool true) ∧ Later w w' := by
  have HB := Lib.hid (begun8_any w hs)
  have HS := Lib.hid hs
  clear hs
  have kc := fun (w : World) (C : Array Value) (n c : Nat) => Lib.run_convert_bytes_const (P := Tryd.prog) w 22 5 C n c Tryd.underlying22 Tryd.underlying5
  go_enter Tryd.func6, Tryd.ntmps6
  go_wp2_with fail
  refine HB.out.mono ?_
  rintro e w1 ⟨rfl, l⟩
  have HL1 := Lib.hid l
  have HS1 := Lib.hid (HS.out.later l)
  clear l HB HS
  have l := Later.new w1 (.cells (fl f8_0).toArray 26)
  have bx := (Blk.new w1 (fl f8_0).toArray 26 _ rfl).has
  have HC := Lib.hid (packPut_any 2 (some ⟨w1.heap.size, 0, none⟩) 2 f8_0 _ (HS1.out.later l) (by decide) bx f8_0_64)
  have HLx := Lib.hid (HL1.out.trans l)
  have HSx := Lib.hid (HS1.out.later l)
  clear l bx HL1 HS1
  go_wp2_with fail
  refine HC.out.mono ?_
  intro e w2 h
  obtain ⟨A0, c0, rfl, r, _, _, _, l⟩ := h.yes f8_0_is
  have HL2 := Lib.hid (HLx.out.trans l)
  have HS2 := Lib.hid (HSx.out.later l)
  have K0 := r
  clear h l HC HLx HSx
  clear r
  have l := Later.new w2 (.cells (fl f8_1).toArray 26)
  have bx := (Blk.new w2 (fl f8_1).toArray 26 _ rfl).has
  have HC := Lib.hid (packPut_any 1 (some ⟨w2.heap.size, 0, none⟩) 3 f8_1 _ (HS2.out.later l) (by decide) bx f8_1_64)
  have HLx := Lib.hid (HL2.out.trans l)
  have HSx := Lib.hid (HS2.out.later l)
  have K0 := K0.later (l)
  clear l bx HL2 HS2
  go_wp2_with fail
  refine HC.out.mono ?_
  intro e w3 h
  obtain ⟨A1, c1, rfl, r, _, _, _, l⟩ := h.yes f8_1_is
  have HL3 := Lib.hid (HLx.out.trans l)
  have HS3 := Lib.hid (HSx.out.later l)
  have K0 := K0.later (l)
  have K1 := r
  clear h l HC HLx HSx
  clear r
  have l := Later.new w3 (.cells (fl f8_2).toArray 26)
  have bx := (Blk.new w3 (fl f8_2).toArray 26 _ rfl).has
  have HC := Lib.hid (packPut_any 2 (some ⟨w3.heap.size, 0, none⟩) 2 f8_2 _ (HS3.out.later l) (by decide) bx f8_2_64)
  have HLx := Lib.hid (HL3.out.trans l)
  have HSx := Lib.hid (HS3.out.later l)
  have K0 := K0.later (l)
  have K1 := K1.later (l)
  clear l bx HL3 HS3
  go_wp2_with fail
  refine HC.out.mono ?_
  intro e w4 h
  obtain ⟨A2, c2, rfl, r, _, _, _, l⟩ := h.yes f8_2_is
  have HL4 := Lib.hid (HLx.out.trans l)
  have HS4 := Lib.hid (HSx.out.later l)
  have K0 := K0.later (l)
  have K1 := K1.later (l)
  clear h l HC HLx HSx
  clear r
  have l := Later.refl w4
  have bx : Has w4 none (fl f8_3) := Has.nil_
  have HC := Lib.hid (packPut_any 3 none 0 f8_3 _ (HS4.out.later l) (by decide) bx f8_3_64)
  have HLx := Lib.hid (HL4.out.trans l)
  have HSx := Lib.hid (HS4.out.later l)
  have K0 := K0.later (l)
  have K1 := K1.later (l)
  clear l bx HL4 HS4
  go_wp2_with fail
  refine HC.out.mono ?_
  intro e w5 h
  obtain ⟨A3, c3, rfl, r, _, _, _, l⟩ := h.yes f8_3_is
  have HL5 := Lib.hid (HLx.out.trans l)
  have HS5 := Lib.hid (HSx.out.later l)
  have K0 := K0.later (l)
  have K1 := K1.later (l)
  clear h l HC HLx HSx
  clear r
  have l := Later.new w5 (.cells (ints .u8 [128, 128, 4, 0]).toArray 5 (4, 5))
  have bx := Has.litF8 w5 5 .u8 [128, 128, 4, 0] (4, 5)
  have HC := Lib.hid (packTake_any 1 1 (some ⟨w5.heap.size, 0, none⟩) 4 [128, 128, 4, 0] _ (HS5.out.later l) bx (by decide) (by decide) (by decide) (by decide))
  have HLx := Lib.hid (HL5.out.trans l)
  have HSx := Lib.hid (HS5.out.later l)
  have K0 := K0.later (l)
  have K1 := K1.later (l)
  clear l bx HL5 HS5
  go_wp2_with fail
  refine HC.out.mono ?_
  intro e w6 h
  obtain ⟨rfl, l⟩ := h.no f8_4_is
  have HL6 := Lib.hid (HLx.out.trans l)
  have HS6 := Lib.hid (HSx.out.later l)
  have K0 := K0.later (l)
  have K1 := K1.later (l)
  clear h l HC HLx HSx
  have l := Later.new w6 (.cells (ints .u8 [2, 1, 1]).toArray 5 (3, 4))
  have bx := Has.litF8 w6 5 .u8 [2, 1, 1] (3, 4)
  have HC := Lib.hid (packTake_any 2 1 (some ⟨w6.heap.size, 0, none⟩) 3 [2, 1, 1] _ (HS6.out.later l) bx (by decide) (by decide) (by decide) (by decide))
  have HLx := Lib.hid (HL6.out.trans l)
  have HSx := Lib.hid (HS6.out.later l)
  have K0 := K0.later (l)
  have K1 := K1.later (l)
  clear l bx HL6 HS6
  go_wp2_with fail
  refine HC.out.mono ?_
  intro e w7 h
  obtain ⟨rfl, l⟩ := h.no f8_5_is
  have HL7 := Lib.hid (HLx.out.trans l)
  have HS7 := Lib.hid (HSx.out.later l)
  have K0 := K0.later (l)
  have K1 := K1.later (l)
  clear h l HC HLx HSx
  have l := Later.new w7 (.cells (ints .u8 [2, 1, 2]).toArray 5 (3, 4))
  have bx := Has.litF8 w7 5 .u8 [2, 1, 2] (3, 4)
  have HC := Lib.hid (packTake_any 3 2 (some ⟨w7.heap.size, 0, none⟩) 3 [2, 1, 2] _ (HS7.out.later l) bx (by decide) (by decide) (by decide) (by decide))
  have HLx := Lib.hid (HL7.out.trans l)
  have HSx := Lib.hid (HS7.out.later l)
  have K0 := K0.later (l)
  have K1 := K1.later (l)
  clear l bx HL7 HS7
  go_wp2_with fail
  refine HC.out.mono ?_
  intro e w8 h
  obtain ⟨rfl, l⟩ := h.no f8_6_is
  have HL8 := Lib.hid (HLx.out.trans l)
  have HS8 := Lib.hid (HSx.out.later l)
  have K0 := K0.later (l)
  have K1 := K1.later (l)
  clear h l HC HLx HSx
  have cv0 := conv_str A0 2 c0 [10, 0] rfl w8 _ K0
  rw [show bstr [10, 0] = (⟨#[10, 0]⟩ : ByteArray) from rfl] at cv0
  clear K0
  have cv1 := conv_str A1 4 c1 [5, 3, 248, 0] rfl w8 _ K1
  rw [show bstr [5, 3, 248, 0] = (⟨#[5, 3, 248, 0]⟩ : ByteArray) from rfl] at cv1
  clear K1
  have hl2 : ([255, 255, 255, 255, 255, 255, 255, 255, 255, 1, 64, 0, 0, 0, 0, 0, 0, 0, 0, 255, 255, 255, 255, 255, 255, 255, 255] : List Nat).length = 27 := rfl
  have hl3 : ([] : List Nat).length = 0 := rfl
  go_wp2_with fail
  go_ret
  exact ⟨rfl, HL8.out⟩
end Go.Proofs.YtdhaagooiioglaaDoor
