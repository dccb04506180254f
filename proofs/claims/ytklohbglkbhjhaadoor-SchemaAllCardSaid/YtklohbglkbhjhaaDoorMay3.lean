/- value.check, May under the three sentinels that they name; fault.Of. -/
import Derived.Test.YtklohbglkbhjhaaDoorCell
import Derived.Stop.IfaceNil
namespace Go.Proofs.YtklohbglkbhjhaaDoor
open Go.RowKit
set_option linter.unusedVariables false

/-- The three sentinels that value.check names. -/
structure S3 (w : World) : Prop where
  value : CSent w 5
  bound : CSent w 6
  type : CSent w 7
theorem S3.later {w w' : World} (h : S3 w) (l : Later w w') : S3 w' := ⟨h.value.later l, h.bound.later l, h.type.later l⟩
def CheckP (t i : Int) (n : Nat) (w : World) (e : Ending) (w' : World) : Prop :=
  ((MayV t i n ∧ e = .returned .nilIface) ∨ (¬ MayV t i n ∧ ∃ p, e = .returned (.iface 112 (.pointer (some p))))) ∧ Later w w'

set_option maxRecDepth 100000 in
set_option maxHeartbeats 1000000 in
theorem check3_any (t i : Int) (s : ByteArray) (w : World) (hs : S3 w) :
    Calls Tryd.prog 82 #[.agg #[.int .i64 t, .int .i64 i, .string s]] w (CheckP t i s.size w) := by
  obtain ⟨a2, h2⟩ := hs.value
  obtain ⟨a3, h3⟩ := hs.bound
  obtain ⟨a4, h4⟩ := hs.type
  have g2 : 5 < w.heap.size := block_lt_of_cell h2
  have g3 : 6 < w.heap.size := block_lt_of_cell h3
  have g4 : 7 < w.heap.size := block_lt_of_cell h4
  clear hs
  have HE1 := Lib.hid (fun o : Obj => Later.new w o)
  have HE2 := Lib.hid (fun o o' : Obj => (Later.new w o).alloc o')
  by_cases hz : s.size = 0
  · have hse : s.toList.isEmpty = true := by
      rw [Lib.toList_data]; cases s with | mk d => simpa [ByteArray.size] using hz
    go_enter Tryd.func82, Tryd.ntmps82
    (go_wp2_with (go_at_call 60; refine (at_any _ _ _ _ _ rfl).mono ?_; rintro e w' ⟨rfl, rfl⟩))
    all_goals go_ret
    all_goals simp only [bne_iff_ne, ne_eq, bne_eq_false_iff_eq, beq_iff_eq, beq_eq_false_iff_ne] at *
    all_goals first
      | exact ⟨.inl ⟨by unfold MayV; omega, rfl⟩, HE1.out _⟩
      | exact ⟨.inr ⟨by unfold MayV; omega, _, rfl⟩, HE2.out _ _⟩
  · have hse : s.toList.isEmpty = false := by
      rw [Lib.toList_data]; cases s with | mk d => simpa [ByteArray.size] using hz
    go_enter Tryd.func82, Tryd.ntmps82
    (go_wp2_with (go_at_call 60; refine (at_any _ _ _ _ _ rfl).mono ?_; rintro e w' ⟨rfl, rfl⟩))
    all_goals go_ret
    all_goals simp only [bne_iff_ne, ne_eq, bne_eq_false_iff_eq, beq_iff_eq, beq_eq_false_iff_ne] at *
    all_goals first
      | exact ⟨.inl ⟨by unfold MayV; omega, rfl⟩, HE1.out _⟩
      | exact ⟨.inr ⟨by unfold MayV; omega, _, rfl⟩, HE2.out _ _⟩

set_option maxRecDepth 100000 in
theorem may3_any (t i : Int) (s : ByteArray) (w : World) (hs : S3 w) :
    Calls Tryd.prog 65 #[.agg #[.int .i64 t, .int .i64 i, .string s]] w (TellsP (MayV t i s.size) w) := by
  obtain ⟨w1, hw1⟩ : ∃ w1 : World, w.alloc (.cells #[.int .i64 t, .int .i64 i, .string s] 29) = w1 := ⟨_, rfl⟩
  have b1 : Later w w1 := hw1 ▸ Later.new w _
  have HC := Lib.hid (check3_any t i s w1 (hs.later b1))
  have HB := Lib.hid b1
  have HW := Lib.hid hw1
  clear hs hw1 b1
  go_enter Tryd.func65, Tryd.ntmps65
  go_wp2_with fail
  rw [HW.out]
  refine HC.out.mono ?_
  rintro e w2 ⟨h, b2⟩
  have HB2 := Lib.hid (HB.out.trans b2)
  clear b2
  rcases h with ⟨hm, rfl⟩ | ⟨hm, p, rfl⟩
  · have HM := Lib.hid hm
    clear hm
    go_wp2_with fail
    go_ret
    exact TellsP.t HM.out HB2.out
  · have HM := Lib.hid hm
    have hif : Tryd.prog.isIface 80 = true := by kernel_rfl
    have heq := run_eql_iface_nil (P := Tryd.prog) (w := w2) 80 hif 112 (.pointer (some p))
    clear hm
    go_wp2_with fail
    go_ret
    exact TellsP.f HM.out HB2.out

end Go.Proofs.YtklohbglkbhjhaaDoor
