/- The walk of DevAll: where there is nothing to do. -/
import Derived.Test.YtnmldploafpbdaaDevSt
import Derived.Test.YtnmldploafpbdaaDevBeg
namespace Go.Proofs.Ytnmldploafpbdaa
open Go.RowKit
set_option linter.unusedVariables false

set_option maxRecDepth 100000 in
set_option maxHeartbeats 4000000 in
/-- Deeds that are too heavy, or too many blocks. -/
theorem devAll_out (b : Int) (A : Option Addr) (n ca : Nat) (L : List DeedS) (w : World) (hA : IsDeeds7 w A n ca L) (h : lightL L = false ∨ (50 < b ∧ b ≤ 4000)) :
    Calls Try.prog 3 #[.int .i64 b, .slice A n ca] w fun e w' => e = .returned (.bool true) ∧ Later w w' := by
  have HB := Lib.hid (begun18_any w)
  have HA := Lib.hid hA
  obtain ⟨lb, hlb⟩ : ∃ lb, lightL L = lb := ⟨_, rfl⟩
  have HLB := Lib.hid hlb
  rw [hlb] at h
  clear hA hlb
  go_enter Try.func3, Try.ntmps3
  go_wp2_with fail
  refine HB.out.mono ?_
  rintro e w1 ⟨rfl, l1⟩
  have H1 := Lib.hid (by have h := light_any A n ca L w1 (HA.out.later l1); rw [HLB.out] at h; exact h)
  have HL1 := Lib.hid l1
  clear l1 HB
  go_wp2_with fail
  refine H1.out.mono ?_
  rintro e w' ⟨rfl, rfl⟩
  cases lb
  · clear h
    go_wp2_with fail
    all_goals
      go_ret
      exact ⟨rfl, HL1.out⟩
  · have h := h.resolve_left (by simp)
    have d1 : decide (50 < b) = true := by simp; omega
    have d2 : decide (b ≤ 4000) = true := by simp; omega
    go_wp2_with fail
    all_goals
      go_ret
      exact ⟨rfl, HL1.out⟩

set_option maxRecDepth 100000 in
set_option maxHeartbeats 4000000 in
/-- No device of so many blocks. -/
theorem devAll_none (b : Int) (A : Option Addr) (n ca : Nat) (L : List DeedS) (w : World) (hA : IsDeeds7 w A n ca L) (hl : lightL L = true) (hb : b < 1 ∨ 4000 < b) :
    Calls Try.prog 3 #[.int .i64 b, .slice A n ca] w fun e w' => e = .returned (.bool true) ∧ Later w w' := by
  have HB := Lib.hid (begun18_any w)
  have HA := Lib.hid hA
  have HLB := Lib.hid hl
  have d3 : (decide (50 < b) && decide (b ≤ 4000)) = false := by rw [Bool.and_eq_false_iff]; simp; omega
  have hn : ¬ (1 ≤ b ∧ b ≤ 4000) := by omega
  have hn40 : n ≤ 40 := by have h := hA.1; unfold lightL at hl; simp at hl; omega
  clear hA hl
  go_enter Try.func3, Try.ntmps3
  go_wp2_with fail
  refine HB.out.mono ?_
  rintro e w1 ⟨rfl, l1⟩
  have H1 := Lib.hid (by have h := light_any A n ca L w1 (HA.out.later l1); rw [HLB.out] at h; exact h)
  have HL1 := Lib.hid l1
  have HN1 := Lib.hid (devNew_no b w1 hn)
  have HN2 := Lib.hid (refNew_no b w1 hn)
  have HX := Lib.hid (nilRead w1)
  have HX2 := Lib.hid (nilFlush w1)
  have HX3 := Lib.hid (nilStop 1 w1)
  have HX4 := Lib.hid (nilCrash nilv 0 0 w1)
  have HX5 := Lib.hid (full_any none 0 0 [] w1 rfl (by decide) Has.nil_)
  clear l1 HB
  go_wp2_with fail
  refine H1.out.mono ?_
  rintro e w' ⟨rfl, rfl⟩
  have hlt : ∀ N : Nat, ((0 : Int) < (N : Int)) → True := fun _ _ => trivial
  obtain ⟨c1, hc1⟩ : ∃ c, decide (50 < b) = c := ⟨_, rfl⟩
  obtain ⟨c2, hc2⟩ : ∃ c, decide (b ≤ 4000) = c := ⟨_, rfl⟩
  rw [hc1, hc2] at d3
  have hcc : (c1 = true ∧ c2 = false) ∨ c1 = false := by cases c1 <;> cases c2 <;> simp_all
  clear d3 hlt
  rcases hcc with ⟨rfl, rfl⟩ | rfl
  all_goals
    go_wp2_with fail
    refine HN1.out.mono ?_
    rintro e w' ⟨rfl, rfl⟩
    go_wp2_with fail
    refine HN2.out.mono ?_
    rintro e w' ⟨rfl, rfl⟩
    go_wp2_with fail
    go_loopw [5, 9] (fun pv iv wr => pv = nilp ∧ iv = .int .i64 0 ∧ wr = w') (fun _ _ _ => 0)
    case atStart => exact ⟨rfl, rfl, rfl⟩
    case round =>
      obtain ⟨rfl, rfl, rfl⟩ := hrel
      obtain ⟨c0, h1⟩ : ∃ c, decide ((0 : Int) < (n : Int)) = c := ⟨_, rfl⟩
      have h2 : decide (0 < n) = c0 := by rw [← h1]; exact decide_eq_decide.2 (by omega)
      cases c0
      all_goals
        go_wp2_with fail
        go_loopw [18] (fun iv wx => iv = .int .i64 0 ∧ wx = wr) (fun _ _ => 0)
        case atStart => exact ⟨rfl, rfl⟩
        case round =>
          obtain ⟨rfl, rfl⟩ := hrel
          go_wp2_with fail
          refine HX.out.mono ?_
          rintro e w' ⟨rfl, rfl⟩
          go_wp2_with fail
          refine HX2.out.mono ?_
          rintro e w' ⟨rfl, rfl⟩
          go_wp2_with fail
          refine HX3.out.mono ?_
          rintro e w' ⟨rfl, rfl⟩
          go_wp2_with fail
          refine HX4.out.mono ?_
          rintro e w' ⟨rfl, rfl⟩
          go_wp2_with fail
          refine HX5.out.mono ?_
          rintro e w5 ⟨g5, rfl, r5, l5, _⟩
          have HL5 := Lib.hid (HL1.out.trans l5)
          have HY1 := Lib.hid (nilWrite (some ⟨g5, 0, none⟩) 128 128 w5)
          have HY2 := Lib.hid (nilBlocks w5)
          have HY3 := Lib.hid (nilWrites w5)
          have HY4 := Lib.hid (nilStopped w5)
          have HY5 := Lib.hid (nilCopy w5)
          clear r5 l5
          go_wp2_with fail
          refine HY1.out.mono ?_
          rintro e w' ⟨rfl, rfl⟩
          go_wp2_with fail
          refine HY2.out.mono ?_
          rintro e w' ⟨rfl, rfl⟩
          go_wp2_with fail
          refine HY3.out.mono ?_
          rintro e w' ⟨rfl, rfl⟩
          go_wp2_with fail
          refine HY4.out.mono ?_
          rintro e w' ⟨rfl, rfl⟩
          go_wp2_with fail
          refine HY5.out.mono ?_
          rintro e w' ⟨rfl, rfl⟩
          go_wp2_with fail
          go_ret
          exact ⟨rfl, HL5.out⟩
end Go.Proofs.Ytnmldploafpbdaa
