/- The walk of ColumnForms. -/
import Derived.Test.YtnfomdjcpkgdpaaGreatDoorCol10
import Derived.Lib.SlBytesConst
namespace Go.Proofs.YtnfomdjcpkgdpaaGreatDoor
open Go.RowKit
set_option linter.unusedVariables false

theorem Has.litF10 (w : World) (t : TypeId) (k : IntKind) (l : List Nat) (fz : Nat × Nat) : Has (w.alloc (.cells (ints k l).toArray t fz)) (some ⟨w.heap.size, 0, none⟩) (ints k l) :=
  .inr ⟨w.heap.size, 0, rfl, by simp, fun i v hv => by rw [Nat.zero_add, cell_of_row _ w.heap.size i (ints k l).toArray t fz (heap_alloc_new w _)]; simpa using hv⟩
def f10_0 : List Val3 := [(2, 1, ⟨#[]⟩), (0, 0, ⟨#[]⟩), (2, 1, ⟨#[]⟩)]
theorem f10_0_64 : All64 f10_0 := by unfold All64 In64 f10_0; decide
theorem f10_0_is : putC 1 2 f10_0 = some [1, 1, 2, 2, 2] := by decide
def f10_1 : List Val3 := [(3, 1, ⟨#[]⟩)]
theorem f10_1_64 : All64 f10_1 := by unfold All64 In64 f10_1; decide
theorem f10_1_is : putC 5 3 f10_1 = some [4, 0, 2, 0] := by decide
def f10_2 : List Val3 := [(0, 0, ⟨#[]⟩), (0, 0, ⟨#[]⟩)]
theorem f10_2_64 : All64 f10_2 := by unfold All64 In64 f10_2; decide
theorem f10_2_is : putC 4 4 f10_2 = some [3, 1, 3, 0] := by decide
def f10_3 : List Val3 := []
theorem f10_3_64 : All64 f10_3 := by unfold All64 In64 f10_3; decide
theorem f10_3_is : putC 2 1 f10_3 = some [2, 0] := by decide
def f10_4 : List Val3 := []
theorem f10_4_64 : All64 f10_4 := by unfold All64 In64 f10_4; decide
theorem f10_4_is : putC 6 2 f10_4 = none := by decide
def f10_5 : List Val3 := [(1, 0, ⟨#[]⟩)]
theorem f10_5_64 : All64 f10_5 := by unfold All64 In64 f10_5; decide
theorem f10_5_is : putC 1 2 f10_5 = none := by decide
theorem f10_6_is : takeC10 2 1 [1, 1, 0, 2] = none := by decide
theorem f10_7_is : takeC10 2 1 [1, 2, 2] = none := by decide
theorem f10_8_is : takeC10 3 1 [5, 0, 2] = none := by decide

set_option maxRecDepth 100000 in
set_option maxHeartbeats 4000000 in
theorem columnForms_walk (w : World) (hs : S10 w) : Calls Tryz.prog 6 #[] w fun e w' => e = .returned (.bool true) ∧ Later w w' := by
  have HB := Lib.hid (begun10_any w hs)
  have HS := Lib.hid hs
  clear hs
  have kc := fun (w : World) (C : Array Value) (n c : Nat) => Lib.run_convert_bytes_const (P := Tryz.prog) w 22 5 C n c Tryz.underlying22 Tryz.underlying5
  go_enter Tryz.func6, Tryz.ntmps6
  go_wp2_with fail
  refine HB.out.mono ?_
  rintro e w1 ⟨rfl, l⟩
  have HL1 := Lib.hid l
  have HS1 := Lib.hid (HS.out.later l)
  clear l HB HS
  have l := (Later.new w1 (.cells (fl [(2, 1, ⟨#[]⟩)]).toArray 26)).alloc (.cells (fl f10_0).toArray 26)
  have bx := (Blk.new (w1.alloc (.cells (fl [(2, 1, ⟨#[]⟩)]).toArray 26)) (fl f10_0).toArray 26 (w1.heap.size + 1) (by simp)).has
  have HC := Lib.hid (colPut_any 1 2 (some ⟨w1.heap.size + 1, 0, none⟩) 3 3 f10_0 _ rfl (HS1.out.later l).s6 (by decide) bx f10_0_64)
  have HLx := Lib.hid (HL1.out.trans l)
  have HSx := Lib.hid (HS1.out.later l)
  clear l bx HL1 HS1
  go_wp2_with fail
  refine HC.out.mono ?_
  intro e w2 h
  obtain ⟨A0, c0, rfl, r, _, _, _, l⟩ := h.yes f10_0_is
  have HL2 := Lib.hid (HLx.out.trans l)
  have HS2 := Lib.hid (HSx.out.later l)
  have K0 := r
  clear h l HC HLx HSx
  clear r
  have l := Later.new w2 (.cells (fl f10_1).toArray 26)
  have bx := (Blk.new w2 (fl f10_1).toArray 26 _ rfl).has
  have HC := Lib.hid (colPut_any 5 3 (some ⟨w2.heap.size, 0, none⟩) 1 1 f10_1 _ rfl (HS2.out.later l).s6 (by decide) bx f10_1_64)
  have HLx := Lib.hid (HL2.out.trans l)
  have HSx := Lib.hid (HS2.out.later l)
  have K0 := K0.later (l)
  clear l bx HL2 HS2
  go_wp2_with fail
  refine HC.out.mono ?_
  intro e w3 h
  obtain ⟨A1, c1, rfl, r, _, _, _, l⟩ := h.yes f10_1_is
  have HL3 := Lib.hid (HLx.out.trans l)
  have HS3 := Lib.hid (HSx.out.later l)
  have K0 := K0.later (l)
  have K1 := r
  clear h l HC HLx HSx
  clear r
  have l := Later.new w3 (.cells (fl f10_2).toArray 26)
  have bx := (Blk.new w3 (fl f10_2).toArray 26 _ rfl).has
  have HC := Lib.hid (colPut_any 4 4 (some ⟨w3.heap.size, 0, none⟩) 2 2 f10_2 _ rfl (HS3.out.later l).s6 (by decide) bx f10_2_64)
  have HLx := Lib.hid (HL3.out.trans l)
  have HSx := Lib.hid (HS3.out.later l)
  have K0 := K0.later (l)
  have K1 := K1.later (l)
  clear l bx HL3 HS3
  go_wp2_with fail
  refine HC.out.mono ?_
  intro e w4 h
  obtain ⟨A2, c2, rfl, r, _, _, _, l⟩ := h.yes f10_2_is
  have HL4 := Lib.hid (HLx.out.trans l)
  have HS4 := Lib.hid (HSx.out.later l)
  have K0 := K0.later (l)
  have K1 := K1.later (l)
  have K2 := r
  clear h l HC HLx HSx
  clear r
  have l := Later.refl w4
  have bx : Has w4 none (fl f10_3) := Has.nil_
  have HC := Lib.hid (colPut_any 2 1 none 0 0 f10_3 _ rfl (HS4.out.later l).s6 (by decide) bx f10_3_64)
  have HLx := Lib.hid (HL4.out.trans l)
  have HSx := Lib.hid (HS4.out.later l)
  have K0 := K0.later (l)
  have K1 := K1.later (l)
  have K2 := K2.later (l)
  clear l bx HL4 HS4
  go_wp2_with fail
  refine HC.out.mono ?_
  intro e w5 h
  obtain ⟨A3, c3, rfl, r, _, _, _, l⟩ := h.yes f10_3_is
  have HL5 := Lib.hid (HLx.out.trans l)
  have HS5 := Lib.hid (HSx.out.later l)
  have K0 := K0.later (l)
  have K1 := K1.later (l)
  have K2 := K2.later (l)
  have K3 := r
  clear h l HC HLx HSx
  clear r
  have l := Later.refl w5
  have bx : Has w5 none (fl f10_4) := Has.nil_
  have HC := Lib.hid (colPut_any 6 2 none 0 0 f10_4 _ rfl (HS5.out.later l).s6 (by decide) bx f10_4_64)
  have HLx := Lib.hid (HL5.out.trans l)
  have HSx := Lib.hid (HS5.out.later l)
  have K0 := K0.later (l)
  have K1 := K1.later (l)
  have K2 := K2.later (l)
  have K3 := K3.later (l)
  clear l bx HL5 HS5
  go_wp2_with fail
  refine HC.out.mono ?_
  intro e w6 h
  obtain ⟨rfl, l⟩ := h.no f10_4_is
  have HL6 := Lib.hid (HLx.out.trans l)
  have HS6 := Lib.hid (HSx.out.later l)
  have K0 := K0.later (l)
  have K1 := K1.later (l)
  have K2 := K2.later (l)
  have K3 := K3.later (l)
  clear h l HC HLx HSx
  have l := Later.new w6 (.cells (fl f10_5).toArray 26)
  have bx := (Blk.new w6 (fl f10_5).toArray 26 _ rfl).has
  have HC := Lib.hid (colPut_any 1 2 (some ⟨w6.heap.size, 0, none⟩) 1 1 f10_5 _ rfl (HS6.out.later l).s6 (by decide) bx f10_5_64)
  have HLx := Lib.hid (HL6.out.trans l)
  have HSx := Lib.hid (HS6.out.later l)
  have K0 := K0.later (l)
  have K1 := K1.later (l)
  have K2 := K2.later (l)
  have K3 := K3.later (l)
  clear l bx HL6 HS6
  go_wp2_with fail
  refine HC.out.mono ?_
  intro e w7 h
  obtain ⟨rfl, l⟩ := h.no f10_5_is
  have HL7 := Lib.hid (HLx.out.trans l)
  have HS7 := Lib.hid (HSx.out.later l)
  have K0 := K0.later (l)
  have K1 := K1.later (l)
  have K2 := K2.later (l)
  have K3 := K3.later (l)
  clear h l HC HLx HSx
  have l := Later.new w7 (.cells (ints .u8 [1, 1, 0, 2]).toArray 5 (4, 5))
  have bx := Has.litF10 w7 5 .u8 [1, 1, 0, 2] (4, 5)
  have HC := Lib.hid (colTake_any 2 1 (some ⟨w7.heap.size, 0, none⟩) 4 4 [1, 1, 0, 2] _ (HS7.out.later l) rfl bx (by decide) (by decide) (by decide) (by decide))
  have HLx := Lib.hid (HL7.out.trans l)
  have HSx := Lib.hid (HS7.out.later l)
  have K0 := K0.later (l)
  have K1 := K1.later (l)
  have K2 := K2.later (l)
  have K3 := K3.later (l)
  clear l bx HL7 HS7
  go_wp2_with fail
  refine HC.out.mono ?_
  intro e w8 h
  obtain ⟨rfl, l⟩ := h.no f10_6_is
  have HL8 := Lib.hid (HLx.out.trans l)
  have HS8 := Lib.hid (HSx.out.later l)
  have K0 := K0.later (l)
  have K1 := K1.later (l)
  have K2 := K2.later (l)
  have K3 := K3.later (l)
  clear h l HC HLx HSx
  have l := Later.new w8 (.cells (ints .u8 [1, 2, 2]).toArray 5 (3, 4))
  have bx := Has.litF10 w8 5 .u8 [1, 2, 2] (3, 4)
  have HC := Lib.hid (colTake_any 2 1 (some ⟨w8.heap.size, 0, none⟩) 3 3 [1, 2, 2] _ (HS8.out.later l) rfl bx (by decide) (by decide) (by decide) (by decide))
  have HLx := Lib.hid (HL8.out.trans l)
  have HSx := Lib.hid (HS8.out.later l)
  have K0 := K0.later (l)
  have K1 := K1.later (l)
  have K2 := K2.later (l)
  have K3 := K3.later (l)
  clear l bx HL8 HS8
  go_wp2_with fail
  refine HC.out.mono ?_
  intro e w9 h
  obtain ⟨rfl, l⟩ := h.no f10_7_is
  have HL9 := Lib.hid (HLx.out.trans l)
  have HS9 := Lib.hid (HSx.out.later l)
  have K0 := K0.later (l)
  have K1 := K1.later (l)
  have K2 := K2.later (l)
  have K3 := K3.later (l)
  clear h l HC HLx HSx
  have l := Later.new w9 (.cells (ints .u8 [5, 0, 2]).toArray 5 (3, 4))
  have bx := Has.litF10 w9 5 .u8 [5, 0, 2] (3, 4)
  have HC := Lib.hid (colTake_any 3 1 (some ⟨w9.heap.size, 0, none⟩) 3 3 [5, 0, 2] _ (HS9.out.later l) rfl bx (by decide) (by decide) (by decide) (by decide))
  have HLx := Lib.hid (HL9.out.trans l)
  have HSx := Lib.hid (HS9.out.later l)
  have K0 := K0.later (l)
  have K1 := K1.later (l)
  have K2 := K2.later (l)
  have K3 := K3.later (l)
  clear l bx HL9 HS9
  go_wp2_with fail
  refine HC.out.mono ?_
  intro e w10 h
  obtain ⟨rfl, l⟩ := h.no f10_8_is
  have HL10 := Lib.hid (HLx.out.trans l)
  have HS10 := Lib.hid (HSx.out.later l)
  have K0 := K0.later (l)
  have K1 := K1.later (l)
  have K2 := K2.later (l)
  have K3 := K3.later (l)
  clear h l HC HLx HSx
  have K0 := Lib.hid K0
  have K1 := Lib.hid K1
  have K2 := Lib.hid K2
  have K3 := Lib.hid K3
  go_wp2_with fail
  obtain ⟨w11, hw11⟩ : ∃ w11 : World, ((w10.alloc (.cells #[.int .i64 5, .int .i64 5, .int .i64 5, .int .i64 5, .int .i64 4, .int .i64 3, .int .i64 2, .int .i64 1, .int .i64 0, .int .i64 6, .int .i64 5] 3)).alloc (.cells #[.int .i64 1, .int .i64 2, .int .i64 3, .int .i64 4, .int .i64 4, .int .i64 4, .int .i64 4, .int .i64 4, .int .i64 1, .int .i64 1, .int .i64 5] 3)).alloc (.cells #[.int .i64 5, .int .i64 5, .int .i64 4, .int .i64 3, .int .i64 3, .int .i64 3, .int .i64 2, .int .i64 1, .int .i64 0, .int .i64 0, .int .i64 0] 3) = w11 := ⟨_, rfl⟩
  rw [hw11]
  have l11 : Later w10 w11 := by rw [← hw11]; exact ((Later.new _ _).alloc _).alloc _
  have z11 : w10.heap.size + 2 < w11.heap.size := by rw [← hw11]; simp
  have hcells : ∀ j, j < 11 → ∃ e t u : Int, w11.cell? ⟨w10.heap.size, j, none⟩ = some (.int .i64 e) ∧ w11.cell? ⟨w10.heap.size + 1, j, none⟩ = some (.int .i64 t) ∧ w11.cell? ⟨w10.heap.size + 2, j, none⟩ = some (.int .i64 u) ∧ ((usedC e t = some u ∧ 0 < u) ∨ (usedC e t = none ∧ u = 0)) := by
    intro j hj
    rw [← hw11]
    match j, hj with
    | 0, _ => exact ⟨5, 1, 5, by simp [go_sem], by simp [go_sem], by simp [go_sem], by decide⟩
    | 1, _ => exact ⟨5, 2, 5, by simp [go_sem], by simp [go_sem], by simp [go_sem], by decide⟩
    | 2, _ => exact ⟨5, 3, 4, by simp [go_sem], by simp [go_sem], by simp [go_sem], by decide⟩
    | 3, _ => exact ⟨5, 4, 3, by simp [go_sem], by simp [go_sem], by simp [go_sem], by decide⟩
    | 4, _ => exact ⟨4, 4, 3, by simp [go_sem], by simp [go_sem], by simp [go_sem], by decide⟩
    | 5, _ => exact ⟨3, 4, 3, by simp [go_sem], by simp [go_sem], by simp [go_sem], by decide⟩
    | 6, _ => exact ⟨2, 4, 2, by simp [go_sem], by simp [go_sem], by simp [go_sem], by decide⟩
    | 7, _ => exact ⟨1, 4, 1, by simp [go_sem], by simp [go_sem], by simp [go_sem], by decide⟩
    | 8, _ => exact ⟨0, 1, 0, by simp [go_sem], by simp [go_sem], by simp [go_sem], by decide⟩
    | 9, _ => exact ⟨6, 1, 0, by simp [go_sem], by simp [go_sem], by simp [go_sem], by decide⟩
    | 10, _ => exact ⟨5, 5, 0, by simp [go_sem], by simp [go_sem], by simp [go_sem], by decide⟩
  have HC := Lib.hid hcells
  have HS11 := Lib.hid (HS10.out.later l11)
  have HL11 := Lib.hid (HL10.out.trans l11)
  obtain ⟨g, hg⟩ : ∃ g, g = w10.heap.size := ⟨_, rfl⟩
  rw [← hg] at HC z11 ⊢
  have K0 := Lib.hid (K0.out.later l11)
  have K1 := Lib.hid (K1.out.later l11)
  have K2 := Lib.hid (K2.out.later l11)
  have K3 := Lib.hid (K3.out.later l11)
  clear hw11 hcells hg l11 HS10 HL10
  go_loopw [26] (fun i wr => ∃ j : Nat, j ≤ 11 ∧ i = .int .i64 j ∧ Later w11 wr) (fun i _ => 11 - (intOf i).toNat)
  case atStart => exact ⟨0, by omega, rfl, Later.refl _⟩
  case round =>
    obtain ⟨j, hj, rfl, lat⟩ := hrel
    have HLT := Lib.hid lat
    by_cases hlt : j < 11
    · obtain ⟨e, t, u, d1, d2, d3, hu⟩ := HC.out j hlt
      have c1 := lat.cell d1
      have c2 := lat.cell d2
      have c3 := lat.cell d3
      have c1' : wr.drew.cell? ⟨g, j, none⟩ = some (.int .i64 e) := c1
      have c2' : wr.drew.cell? ⟨g + 1, j, none⟩ = some (.int .i64 t) := c2
      have c3' : wr.drew.cell? ⟨g + 2, j, none⟩ = some (.int .i64 u) := c3
      have D3 := Lib.hid d3
      clear d1 d2 d3 lat
      rcases hu with ⟨hu, hu0⟩ | ⟨hu, rfl⟩
      · have HU := Lib.hid (fun W => colUsed_yes e t u W hu)
        clear hu
        go_wp2_with fail
        go_region_with (first
          | (go_at_call 8; refine (HU.out _).mono ?_; rintro e w' ⟨rfl, rfl⟩))
        all_goals go_wp2_with fail
        all_goals go_roundw
        all_goals first | exact ⟨j + 1, hlt, by go_num, HLT.out.drew⟩ | (simp [intOf]; omega)
      · have HU := Lib.hid (colUsed_no e t _ (HS11.out.later HLT.out.drew).s6 hu)
        clear hu
        go_wp2_with fail
        go_region_with (first
          | (go_at_call 8; refine HU.out.mono ?_; rintro e w' ⟨rfl, l5⟩; have L5 := Lib.hid (HLT.out.drew.trans l5); have c5 := (HLT.out.drew.trans l5).cell D3.out; clear l5))
        all_goals go_wp2_with fail
        all_goals go_roundw
        all_goals first | exact ⟨j + 1, hlt, by go_num, L5.out⟩ | (simp [intOf]; omega)
    · obtain rfl : j = 11 := by omega
      have HLF := Lib.hid (HL11.out.trans HLT.out)
      have cv0 := conv_str A0 5 c0 [1, 1, 2, 2, 2] rfl wr _ ((K0.out.later HLT.out).rd)
      rw [show bstr [1, 1, 2, 2, 2] = (⟨#[1, 1, 2, 2, 2]⟩ : ByteArray) from rfl] at cv0
      clear K0
      have cv1 := conv_str A1 4 c1 [4, 0, 2, 0] rfl wr _ ((K1.out.later HLT.out).rd)
      rw [show bstr [4, 0, 2, 0] = (⟨#[4, 0, 2, 0]⟩ : ByteArray) from rfl] at cv1
      clear K1
      have cv2 := conv_str A2 4 c2 [3, 1, 3, 0] rfl wr _ ((K2.out.later HLT.out).rd)
      rw [show bstr [3, 1, 3, 0] = (⟨#[3, 1, 3, 0]⟩ : ByteArray) from rfl] at cv2
      clear K2
      have cv3 := conv_str A3 2 c3 [2, 0] rfl wr _ ((K3.out.later HLT.out).rd)
      rw [show bstr [2, 0] = (⟨#[2, 0]⟩ : ByteArray) from rfl] at cv3
      clear K3
      clear lat HC
      go_wp2_with fail
      go_ret
      exact ⟨rfl, HLF.out⟩
end Go.Proofs.YtnfomdjcpkgdpaaGreatDoor
