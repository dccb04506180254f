/- The walk of ValueTypes. -/
import Derived.Test.YtbmlipandjbbbaaDoorValBegun
import Derived.Test.YtbmlipandjbbbaaDoorSents
import Derived.Deep.QuietTactic
import Derived.BigQuiet
namespace Go.Proofs.YtbmlipandjbbbaaDoor
open Go.RowKit
set_option linter.unusedVariables false

theorem putB_length (t i : Int) (s : ByteArray) : (putB t i s).length = if t = 4 then 2 + s.size else 1 + widthV t := by
  unfold putB
  by_cases h : t = 4
  · rw [if_pos h, if_pos h, List.length_cons, List.length_cons, nums_length]; omega
  · rw [if_neg h, if_neg h, List.length_cons, topB_length]; omega
theorem putB_head (t i : Int) (s : ByteArray) : ∃ r, putB t i s = t.toNat :: r := ⟨_, rfl⟩
theorem nat_i64 (s : ByteArray) (h : s.size ≤ 20) : (0 : Int) ≤ s.size ∧ (s.size : Int) ≤ 20 := by omega

set_option maxRecDepth 100000 in
set_option maxHeartbeats 1000000 in
theorem valTypes_walk (t i : Int) (s : ByteArray) (w : World) (hs : Sn w) :
    Calls Tryd.prog 7 #[vagg t i s] w fun e w' => e = .returned (.bool true) ∧ Later w w' := by
  obtain ⟨w1, hw1⟩ : ∃ w1 : World, w.alloc (.cells #[.int .i64 t, .int .i64 i, .string s] 23) = w1 := ⟨_, rfl⟩
  have L1 : Later w w1 := hw1 ▸ Later.new _ _
  have V1 : Blk w1 w.heap.size #[.int .i64 t, .int .i64 i, .string s] 23 := hw1 ▸ Blk.new w _ _ _ rfl
  have HW := Lib.hid hw1
  clear hw1
  go_enter Tryd.func7, Tryd.ntmps7
  go_wp2_with fail
  rw [HW.out]
  refine (begun1_any w1 (hs.later L1)).mono ?_
  rintro e w2 ⟨rfl, l2⟩
  have V2 := V1.later l2
  have L2 := L1.trans l2
  have a0 := V2.cell 0 _ rfl
  have a1 := V2.cell 1 _ rfl
  have a2 := V2.cell 2 _ rfl
  clear HW V1 L1 l2
  go_wp2_with fail
  by_cases hm : MayV t i s.size
  · refine (valPut_l t i s w2 (hs.later L2) hm).mono ?_
    rintro e w3 ⟨A, c, rfl, r3, hc1, hc2, _, l3⟩
    have V3 := V2.later l3
    have L3 := L2.trans l3
    have b0 := V3.cell 0 _ rfl
    have b1 := V3.cell 1 _ rfl
    have b2 := V3.cell 2 _ rfl
    clear a0 a1 a2 V2 L2 l3
    go_wp2_with fail
    refine (may_l t i s w3 (hs.later L3)).mono ?_
    intro e w4 h
    obtain ⟨rfl, l4⟩ := h.yes hm
    have V4 := V3.later l4
    have L4 := L3.trans l4
    have R4 := r3.later l4
    have c0 := V4.cell 0 _ rfl
    have c1 := V4.cell 1 _ rfl
    have c2 := V4.cell 2 _ rfl
    have hlen := putB_length t i s
    obtain ⟨r, hr⟩ := putB_head t i s
    obtain ⟨tn, rfl⟩ : ∃ tn : Nat, t = (tn : Int) := ⟨t.toNat, by unfold MayV at hm; omega⟩
    rw [hr] at R4
    obtain ⟨bb, off, rfl, hcl⟩ := R4.all (by simp [ints])
    have hd : w4.cell? ⟨bb, off, none⟩ = some (.int .u8 (tn : Int)) := hcl 0 _ rfl
    have hsz : s.size ≤ 20 ∨ tn ≠ 4 := by unfold MayV at hm; omega
    have htn : tn ≤ 4 := by unfold MayV at hm; omega
    obtain ⟨n, hn⟩ : ∃ n, n = (putB tn i s).length := ⟨_, rfl⟩
    rw [← hn] at hlen hc1 ⊢
    clear b0 b1 b2 V3 L3 l4 r3 hr hcl R4 h hn hm
    have ht : tn = 0 ∨ tn = 1 ∨ tn = 2 ∨ tn = 3 ∨ tn = 4 := by omega
    rcases ht with rfl | rfl | rfl | rfl | rfl
    · obtain rfl : n = 1 := hlen
      clear htn hsz
      go_wp2_with fail
      go_quiet (fail)
      go_wp2_with fail
      go_ret
      exact ⟨rfl, L4.drewN _⟩
    · obtain rfl : n = 3 := hlen
      clear htn hsz
      go_wp2_with fail
      go_quiet (fail)
      go_wp2_with fail
      go_ret
      exact ⟨rfl, L4.drewN _⟩
    · obtain rfl : n = 9 := hlen
      clear htn hsz
      go_wp2_with fail
      go_quiet (fail)
      go_wp2_with fail
      go_ret
      exact ⟨rfl, L4.drewN _⟩
    · obtain rfl : n = 2 := hlen
      clear htn hsz
      go_wp2_with fail
      go_quiet (fail)
      go_wp2_with fail
      go_ret
      exact ⟨rfl, L4.drewN _⟩
    · have hz : s.size ≤ 20 := by omega
      have hn2 : n = 2 + s.size := hlen
      have hni : ((n : Int) == 2 + (s.size : Int)) = true := by simp; omega
      have hn0 : (0 : Int) < (n : Int) := by omega
      have hn1 : 0 < n := by omega
      clear hlen htn hsz hn2
      go_wp2_with fail
      go_quiet (fail)
      go_wp2_with fail
      go_ret
      exact ⟨rfl, L4.drewN _⟩
  · refine (valPut_n t i s w2 (hs.later L2) hm).mono ?_
    rintro e w3 ⟨rfl, l3⟩
    have V3 := V2.later l3
    have L3 := L2.trans l3
    have b0 := V3.cell 0 _ rfl
    have b1 := V3.cell 1 _ rfl
    have b2 := V3.cell 2 _ rfl
    clear a0 a1 a2 V2 L2 l3
    go_wp2_with fail
    refine (may_l t i s w3 (hs.later L3)).mono ?_
    intro e w4 h
    obtain ⟨rfl, l4⟩ := h.no hm
    have L4 := L3.trans l4
    clear b0 b1 b2 V3 L3 l4 h
    go_wp2_with fail
    go_ret
    exact ⟨rfl, L4⟩
end Go.Proofs.YtbmlipandjbbbaaDoor
