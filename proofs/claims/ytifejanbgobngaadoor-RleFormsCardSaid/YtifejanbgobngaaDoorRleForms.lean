/- The walk of RleForms. -/
import Derived.Test.YtifejanbgobngaaDoorRleLaw
import Derived.Lib.SlBytesConst
namespace Go.Proofs.YtifejanbgobngaaDoor
open Go.RowKit
set_option linter.unusedVariables false

theorem Has.litF6 (w : World) (t : TypeId) (k : IntKind) (l : List Nat) (fz : Nat × Nat) : Has (w.alloc (.cells (ints k l).toArray t fz)) (some ⟨w.heap.size, 0, none⟩) (ints k l) :=
  .inr ⟨w.heap.size, 0, rfl, by simp, fun i v hv => by rw [Nat.zero_add, cell_of_row _ w.heap.size i (ints k l).toArray t fz (heap_alloc_new w _)]; simpa using hv⟩
def f6_0 : List Val3 := [(2, 1, ⟨#[]⟩), (2, 1, ⟨#[]⟩), (2, 2, ⟨#[]⟩), (2, 1, ⟨#[]⟩)]
theorem f6_0_64 : All64 f6_0 := by unfold All64 In64 f6_0; decide
theorem f6_0_is : putL 2 f6_0 = some [2, 2, 1, 4, 1, 2] := by decide
theorem f6_1_is : takeL 2 3 [1, 2, 2, 2] = none := by decide
theorem f6_2_is : takeL 2 2 [3, 2] = none := by decide
theorem f6_3_is : takeL 2 1 [0, 2, 1, 2] = none := by decide
theorem f6_4_is : (takeL 2 2 [2, 2]).isSome = true := by decide

set_option maxRecDepth 100000 in
set_option maxHeartbeats 4000000 in
theorem rleForms_walk (w : World) (hs : S6 w) : Calls Tryd.prog 10 #[] w fun e w' => e = .returned (.bool true) ∧ Later w w' := by
  have HB := Lib.hid (begun6_any w hs)
  have HS := Lib.hid hs
  clear hs
  have kc := fun (w : World) (C : Array Value) (n c : Nat) => Lib.run_convert_bytes_const (P := Tryd.prog) w 22 5 C n c Tryd.underlying22 Tryd.underlying5
  go_enter Tryd.func10, Tryd.ntmps10
  go_wp2_with fail
  refine HB.out.mono ?_
  rintro e w1 ⟨rfl, l⟩
  have HL1 := Lib.hid l
  have HS1 := Lib.hid (HS.out.later l)
  clear l HB HS
  have l := (Later.new w1 (.cells (fl [(2, 1, ⟨#[]⟩)]).toArray 26)).alloc (.cells (fl f6_0).toArray 26)
  have bx := (Blk.new (w1.alloc (.cells (fl [(2, 1, ⟨#[]⟩)]).toArray 26)) (fl f6_0).toArray 26 (w1.heap.size + 1) (by simp)).has
  have HC := Lib.hid (rlePut_any 2 (some ⟨w1.heap.size + 1, 0, none⟩) 4 f6_0 _ (HS1.out.later l) (by decide) bx f6_0_64 (by decide) (by decide))
  have HLx := Lib.hid (HL1.out.trans l)
  have HSx := Lib.hid (HS1.out.later l)
  clear l bx HL1 HS1
  go_wp2_with fail
  refine HC.out.mono ?_
  intro e w2 h
  obtain ⟨A0, c0, rfl, r, _, _, _, l⟩ := h.yes f6_0_is
  have HL2 := Lib.hid (HLx.out.trans l)
  have HS2 := Lib.hid (HSx.out.later l)
  have K0 := r
  clear h l HC HLx HSx
  clear r
  have l := Later.new w2 (.cells (ints .u8 [1, 2, 2, 2]).toArray 5 (4, 5))
  have bx := Has.litF6 w2 5 .u8 [1, 2, 2, 2] (4, 5)
  have HC := Lib.hid (rleTake_any 2 3 (some ⟨w2.heap.size, 0, none⟩) 4 [1, 2, 2, 2] _ (HS2.out.later l) bx (by decide) (by decide) (by decide) (by decide))
  have HLx := Lib.hid (HL2.out.trans l)
  have HSx := Lib.hid (HS2.out.later l)
  have K0 := K0.later (l)
  clear l bx HL2 HS2
  go_wp2_with fail
  refine HC.out.mono ?_
  intro e w3 h
  obtain ⟨rfl, l⟩ := h.no f6_1_is
  have HL3 := Lib.hid (HLx.out.trans l)
  have HS3 := Lib.hid (HSx.out.later l)
  have K0 := K0.later (l)
  clear h l HC HLx HSx
  have l := Later.new w3 (.cells (ints .u8 [3, 2]).toArray 5 (2, 3))
  have bx := Has.litF6 w3 5 .u8 [3, 2] (2, 3)
  have HC := Lib.hid (rleTake_any 2 2 (some ⟨w3.heap.size, 0, none⟩) 2 [3, 2] _ (HS3.out.later l) bx (by decide) (by decide) (by decide) (by decide))
  have HLx := Lib.hid (HL3.out.trans l)
  have HSx := Lib.hid (HS3.out.later l)
  have K0 := K0.later (l)
  clear l bx HL3 HS3
  go_wp2_with fail
  refine HC.out.mono ?_
  intro e w4 h
  obtain ⟨rfl, l⟩ := h.no f6_2_is
  have HL4 := Lib.hid (HLx.out.trans l)
  have HS4 := Lib.hid (HSx.out.later l)
  have K0 := K0.later (l)
  clear h l HC HLx HSx
  have l := Later.new w4 (.cells (ints .u8 [0, 2, 1, 2]).toArray 5 (4, 5))
  have bx := Has.litF6 w4 5 .u8 [0, 2, 1, 2] (4, 5)
  have HC := Lib.hid (rleTake_any 2 1 (some ⟨w4.heap.size, 0, none⟩) 4 [0, 2, 1, 2] _ (HS4.out.later l) bx (by decide) (by decide) (by decide) (by decide))
  have HLx := Lib.hid (HL4.out.trans l)
  have HSx := Lib.hid (HS4.out.later l)
  have K0 := K0.later (l)
  clear l bx HL4 HS4
  go_wp2_with fail
  refine HC.out.mono ?_
  intro e w5 h
  obtain ⟨rfl, l⟩ := h.no f6_3_is
  have HL5 := Lib.hid (HLx.out.trans l)
  have HS5 := Lib.hid (HSx.out.later l)
  have K0 := K0.later (l)
  clear h l HC HLx HSx
  have l := Later.new w5 (.cells (ints .u8 [2, 2]).toArray 5 (2, 3))
  have bx := Has.litF6 w5 5 .u8 [2, 2] (2, 3)
  have HC := Lib.hid (rleTake_any 2 2 (some ⟨w5.heap.size, 0, none⟩) 2 [2, 2] _ (HS5.out.later l) bx (by decide) (by decide) (by decide) (by decide))
  have HLx := Lib.hid (HL5.out.trans l)
  have HSx := Lib.hid (HS5.out.later l)
  have K0 := K0.later (l)
  clear l bx HL5 HS5
  go_wp2_with fail
  refine HC.out.mono ?_
  intro e w6 h
  obtain ⟨m4, hm⟩ := Option.isSome_iff_exists.1 f6_4_is
  obtain ⟨A4, c4, rfl, r, l⟩ := h.yes hm
  have HL6 := Lib.hid (HLx.out.trans l)
  have HS6 := Lib.hid (HSx.out.later l)
  have K0 := K0.later (l)
  clear h l HC HLx HSx
  clear r hm
  have cv0 := conv_str A0 6 c0 [2, 2, 1, 4, 1, 2] rfl w6 _ K0
  rw [show bstr [2, 2, 1, 4, 1, 2] = (⟨#[2, 2, 1, 4, 1, 2]⟩ : ByteArray) from rfl] at cv0
  clear K0
  go_wp2_with fail
  go_ret
  exact ⟨rfl, HL6.out⟩
end Go.Proofs.YtifejanbgobngaaDoor
