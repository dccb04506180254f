/- The walk of DeltaForms. -/
import Derived.Test.YtdhaagooiioglaaDoorDeltaLaw
import Derived.Lib.SlBytesConst
namespace Go.Proofs.YtdhaagooiioglaaDoor
open Go.RowKit
set_option linter.unusedVariables false

theorem Has.litF9 (w : World) (t : TypeId) (k : IntKind) (l : List Nat) (fz : Nat × Nat) : Has (w.alloc (.cells (ints k l).toArray t fz)) (some ⟨w.heap.size, 0, none⟩) (ints k l) :=
  .inr ⟨w.heap.size, 0, rfl, by simp, fun i v hv => by rw [Nat.zero_add, cell_of_row _ w.heap.size i (ints k l).toArray t fz (heap_alloc_new w _)]; simpa using hv⟩
def f9_0 : List Val3 := [(2, 5, ⟨#[]⟩), (2, 6, ⟨#[]⟩), (2, 4, ⟨#[]⟩)]
theorem f9_0_64 : All64 f9_0 := by unfold All64 In64 f9_0; decide
theorem f9_0_is : putD 2 f9_0 = some [10, 2, 3] := by decide
def f9_1 : List Val3 := [(2, (-9223372036854775808), ⟨#[]⟩), (2, 9223372036854775807, ⟨#[]⟩)]
theorem f9_1_64 : All64 f9_1 := by unfold All64 In64 f9_1; decide
theorem f9_1_is : putD 2 f9_1 = some [255, 255, 255, 255, 255, 255, 255, 255, 255, 1, 1] := by decide
def f9_2 : List Val3 := []
theorem f9_2_64 : All64 f9_2 := by unfold All64 In64 f9_2; decide
theorem f9_1_back : takeD 2 2 [255, 255, 255, 255, 255, 255, 255, 255, 255, 1, 1] = some f9_1 := takeD_put (l := f9_1) f9_1_64 (by decide) f9_1_is
theorem f9_2_is : putD 3 f9_2 = none := by decide
def f9_3 : List Val3 := []
theorem f9_3_64 : All64 f9_3 := by unfold All64 In64 f9_3; decide
theorem f9_3_is : putD 1 f9_3 = some [] := by decide
theorem f9_4_is : takeD 1 2 [254, 255, 3, 2] = none := by decide

set_option maxRecDepth 100000 in
set_option maxHeartbeats 4000000 in
theorem deltaForms_walk (w : World) (hs : S6 w) : Calls Tryd.prog 11 #[] w fun e w' => e = .returned (.bool true) ∧ Later w w' := by
  have HB := Lib.hid (begun9_any w hs)
  have HS := Lib.hid hs
  clear hs
  have kc := fun (w : World) (C : Array Value) (n c : Nat) => Lib.run_convert_bytes_const (P := Tryd.prog) w 22 5 C n c Tryd.underlying22 Tryd.underlying5
  go_enter Tryd.func11, Tryd.ntmps11
  go_wp2_with fail
  refine HB.out.mono ?_
  rintro e w1 ⟨rfl, l⟩
  have HL1 := Lib.hid l
  have HS1 := Lib.hid (HS.out.later l)
  clear l HB HS
  have l := Later.new w1 (.cells (fl f9_0).toArray 26)
  have bx := (Blk.new w1 (fl f9_0).toArray 26 _ rfl).has
  have HC := Lib.hid (deltaPut_any 2 (some ⟨w1.heap.size, 0, none⟩) 3 f9_0 _ (HS1.out.later l) (by decide) bx f9_0_64)
  have HLx := Lib.hid (HL1.out.trans l)
  have HSx := Lib.hid (HS1.out.later l)
  clear l bx HL1 HS1
  go_wp2_with fail
  refine HC.out.mono ?_
  intro e w2 h
  obtain ⟨A0, c0, rfl, r, _, _, _, l⟩ := h.yes f9_0_is
  have HL2 := Lib.hid (HLx.out.trans l)
  have HS2 := Lib.hid (HSx.out.later l)
  have K0 := r
  clear h l HC HLx HSx
  clear r
  have l := Later.new w2 (.cells (fl f9_1).toArray 26)
  have bx := (Blk.new w2 (fl f9_1).toArray 26 _ rfl).has
  have HC := Lib.hid (deltaPut_any 2 (some ⟨w2.heap.size, 0, none⟩) 2 f9_1 _ (HS2.out.later l) (by decide) bx f9_1_64)
  have HLx := Lib.hid (HL2.out.trans l)
  have HSx := Lib.hid (HS2.out.later l)
  have K0 := K0.later (l)
  clear l bx HL2 HS2
  go_wp2_with fail
  refine HC.out.mono ?_
  intro e w3 h
  obtain ⟨A1, c1, rfl, r, hk1, hk2, _, l⟩ := h.yes f9_1_is
  have HL3 := Lib.hid (HLx.out.trans l)
  have HS3 := Lib.hid (HSx.out.later l)
  have K0 := K0.later (l)
  have K1 := r
  clear h l HC HLx HSx
  clear r
  have l := Later.refl w3
  have bx : Has w3 none (fl f9_2) := Has.nil_
  have HC := Lib.hid (deltaPut_any 3 none 0 f9_2 _ (HS3.out.later l) (by decide) bx f9_2_64)
  have HLx := Lib.hid (HL3.out.trans l)
  have HSx := Lib.hid (HS3.out.later l)
  have K0 := K0.later (l)
  have K1 := K1.later (l)
  clear l bx HL3 HS3
  go_wp2_with fail
  refine HC.out.mono ?_
  intro e w4 h
  obtain ⟨rfl, l⟩ := h.no f9_2_is
  have HL4 := Lib.hid (HLx.out.trans l)
  have HS4 := Lib.hid (HSx.out.later l)
  have K0 := K0.later (l)
  have K1 := K1.later (l)
  clear h l HC HLx HSx
  have l := Later.refl w4
  have bx : Has w4 none (fl f9_3) := Has.nil_
  have HC := Lib.hid (deltaPut_any 1 none 0 f9_3 _ (HS4.out.later l) (by decide) bx f9_3_64)
  have HLx := Lib.hid (HL4.out.trans l)
  have HSx := Lib.hid (HS4.out.later l)
  have K0 := K0.later (l)
  have K1 := K1.later (l)
  clear l bx HL4 HS4
  go_wp2_with fail
  refine HC.out.mono ?_
  intro e w5 h
  obtain ⟨A3, c3, rfl, r, _, _, _, l⟩ := h.yes f9_3_is
  have HL5 := Lib.hid (HLx.out.trans l)
  have HS5 := Lib.hid (HSx.out.later l)
  have K0 := K0.later (l)
  have K1 := K1.later (l)
  clear h l HC HLx HSx
  clear r
  have l := Later.new w5 (.cells (ints .u8 [254, 255, 3, 2]).toArray 5 (4, 5))
  have bx := Has.litF9 w5 5 .u8 [254, 255, 3, 2] (4, 5)
  have HC := Lib.hid (deltaTake_any 1 2 (some ⟨w5.heap.size, 0, none⟩) 4 [254, 255, 3, 2] _ (HS5.out.later l) bx (by decide) (by decide) (by decide) (by decide))
  have HLx := Lib.hid (HL5.out.trans l)
  have HSx := Lib.hid (HS5.out.later l)
  have K0 := K0.later (l)
  have K1 := K1.later (l)
  clear l bx HL5 HS5
  go_wp2_with fail
  refine HC.out.mono ?_
  intro e w6 h
  obtain ⟨rfl, l⟩ := h.no f9_4_is
  have HL6 := Lib.hid (HLx.out.trans l)
  have HS6 := Lib.hid (HSx.out.later l)
  have K0 := K0.later (l)
  have K1 := K1.later (l)
  clear h l HC HLx HSx
  have HC := Lib.hid (deltaTake_any 2 2 A1 c1 [255, 255, 255, 255, 255, 255, 255, 255, 255, 1, 1] w6 HS6.out K1 (by decide) (by decide) hk1 hk2)
  have HA1 := Lib.hid K1
  clear K1 HS6
  have hl1 : ([255, 255, 255, 255, 255, 255, 255, 255, 255, 1, 1] : List Nat).length = 11 := rfl
  have hl3 : ([] : List Nat).length = 0 := rfl
  go_wp2_with fail
  refine HC.out.mono ?_
  intro e w7 h
  obtain ⟨X, cx, rfl, hx, l⟩ := h.yes f9_1_back
  have HL7 := Lib.hid (HL6.out.trans l)
  have K0 := K0.later l
  have K1 := HA1.out.later l
  have hlx : f9_1.length = 2 := rfl
  obtain ⟨bx, offx, rfl, _, d1, _⟩ := hx.val3 1 (by decide)
  have dx : w7.cell? ⟨bx, offx + 3 + 1, none⟩ = some (.int .i64 9223372036854775807) := d1
  obtain ⟨bb, offb, rfl, hcell⟩ : ∃ bb offb, A1 = some ⟨bb, offb, none⟩ ∧ w7.cell? ⟨bb, offb + 10, none⟩ = some (.int .u8 1) := by
    rcases K1 with h | ⟨bb, offb, h, _, hc⟩
    · cases h
    · exact ⟨bb, offb, h, hc 10 _ rfl⟩
  clear h l HC HL6 hx d1 K1 HA1
  have cv0 := conv_str A0 3 c0 [10, 2, 3] rfl w7 _ K0
  rw [show bstr [10, 2, 3] = (⟨#[10, 2, 3]⟩ : ByteArray) from rfl] at cv0
  clear K0
  clear K0
  go_wp2_with fail
  go_ret
  exact ⟨rfl, HL7.out⟩
end Go.Proofs.YtdhaagooiioglaaDoor
