/- The document's Fits of a value, of a row. -/
import Derived.Test.YtklohbglkbhjhaaDoorSchA
import Derived.Test.YtklohbglkbhjhaaDoorKripke
namespace Go.Proofs.YtklohbglkbhjhaaDoor
open Go.RowKit
set_option linter.unusedVariables false

set_option maxRecDepth 100000 in
theorem refMay1 (t i : Int) (s : ByteArray) (w : World) :
    Calls Tryd.prog 66 #[.agg #[.int .i64 t, .int .i64 i, .string s]] w (SaysP (MayV t i s.size) w) := by
  have HE1 := Lib.hid (fun o : Obj => (Below.refl w.heap.size w).alloc (Nat.le_refl _) o)
  by_cases hz : s.size = 0
  · have hse : s.toList.isEmpty = true := by
      rw [Lib.toList_data]; cases s with | mk d => simpa [ByteArray.size] using hz
    go_enter Tryd.func66, Tryd.ntmps66
    go_wp2_with fail
    all_goals go_ret
    all_goals simp only [ne_eq, beq_iff_eq, beq_eq_false_iff_ne] at *
    all_goals first
      | exact SaysP.yes (by unfold MayV; omega) (HE1.out _)
      | exact SaysP.no (by unfold MayV; omega) (HE1.out _)
      | exact ⟨_, by unfold MayV; simp; omega, rfl, HE1.out _⟩
  · have hse : s.toList.isEmpty = false := by
      rw [Lib.toList_data]; cases s with | mk d => simpa [ByteArray.size] using hz
    go_enter Tryd.func66, Tryd.ntmps66
    go_wp2_with fail
    all_goals go_ret
    all_goals simp only [ne_eq, beq_iff_eq, beq_eq_false_iff_ne] at *
    all_goals first
      | exact SaysP.yes (by unfold MayV; omega) (HE1.out _)
      | exact SaysP.no (by unfold MayV; omega) (HE1.out _)
      | exact ⟨_, by unfold MayV; simp; omega, rfl, HE1.out _⟩

theorem refTyp1 (t : Int) (w : World) : Calls Tryd.prog 67 #[.int .i64 t] w (SaysP (1 ≤ t ∧ t ≤ 4) w) := by
  go_enter Tryd.func67, Tryd.ntmps67
  go_wp2_with fail
  all_goals go_ret
  all_goals first
    | exact SaysP.yes (by omega) (Below.refl _ _)
    | exact SaysP.no (by omega) (Below.refl _ _)
    | exact ⟨_, by simp; omega, rfl, Below.refl _ _⟩

/-- Which values fit a column of a type. -/
def FitsU (t vt i : Int) (n : Nat) : Prop := 1 ≤ t ∧ t ≤ 4 ∧ (vt = 0 ∨ vt = t) ∧ MayV vt i n

set_option maxRecDepth 100000 in
theorem refFits1 (t vt i : Int) (s : ByteArray) (w : World) :
    Calls Tryd.prog 55 #[.int .i64 t, .agg #[.int .i64 vt, .int .i64 i, .string s]] w (SaysP (FitsU t vt i s.size) w) := by
  obtain ⟨w1, hw1⟩ : ∃ w1 : World, w.alloc (.cells #[.int .i64 vt, .int .i64 i, .string s] 29) = w1 := ⟨_, rfl⟩
  have b1 : Below w.heap.size w w1 := hw1 ▸ (Below.refl _ _).alloc (Nat.le_refl _) _
  have hlt : w.heap.size < w1.heap.size := by rw [← hw1]; simp
  have hc : w1.cell? ⟨w.heap.size, 0, none⟩ = some (.int .i64 vt) := by rw [← hw1, World.cell?_alloc_at _ _ _ _ rfl]; rfl
  have HC := Lib.hid (refMay1 vt i s w1)
  have HB := Lib.hid b1
  have HCELL := Lib.hid hc
  have HW := Lib.hid hw1
  clear hw1 b1 hc
  go_enter Tryd.func55, Tryd.ntmps55
  go_wp2_with fail
  rw [HW.out]
  refine HC.out.mono ?_
  rintro e w2 ⟨r, hr, rfl, b2⟩
  have HB2 := Lib.hid (HB.out.trans (b2.mono HB.out.size))
  have hc2 := (b2.cell (p := ⟨w.heap.size, 0, none⟩) hlt).trans HCELL.out
  have z2 := HB2.out.size
  have HR := Lib.hid hr
  clear b2 hr HC HCELL HW HB
  cases r with
  | false =>
    have HN := Lib.hid (show ¬ FitsU t vt i s.size from fun h => by have := HR.out.2 h.2.2.2; cases this)
    go_wp2_with fail
    go_ret
    exact SaysP.no HN.out HB2.out
  | true =>
    have HM := Lib.hid (HR.out.1 rfl)
    go_wp2_with fail
    refine (refTyp1 t w2).mono ?_
    rintro e w3 ⟨r3, hr3, rfl, b3⟩
    have HB3 := Lib.hid (HB2.out.trans (b3.mono z2))
    have hlt2 : w.heap.size < w2.heap.size := block_lt_of_cell hc2
    have hc3 := (b3.cell (p := ⟨w.heap.size, 0, none⟩) hlt2).trans hc2
    have HR3 := Lib.hid hr3
    clear b3 hr3 hc2 HB2
    cases r3 with
    | false =>
      have HN := Lib.hid (show ¬ FitsU t vt i s.size from fun h => by have := HR3.out.2 ⟨h.1, h.2.1⟩; cases this)
      go_wp2_with fail
      go_ret
      exact SaysP.no HN.out HB3.out
    | true =>
      have HT := Lib.hid (HR3.out.1 rfl)
      by_cases h4 : vt = 0
      · have h5 : (vt == 0) = true := by simp [h4]
        have HY := Lib.hid (show FitsU t vt i s.size from ⟨HT.out.1, HT.out.2, .inl h4, HM.out⟩)
        clear h4
        go_wp2_with fail
        go_ret
        exact SaysP.yes HY.out HB3.out
      · have h5 : (vt == 0) = false := by simp [h4]
        by_cases h6 : vt = t
        · have h7 : (vt == t) = true := by simp [h6]
          have HY := Lib.hid (show FitsU t vt i s.size from ⟨HT.out.1, HT.out.2, .inr h6, HM.out⟩)
          clear h4 h6
          go_wp2_with fail
          go_ret
          exact SaysP.yes HY.out HB3.out
        · have h7 : (vt == t) = false := by simp [h6]
          have HY := Lib.hid (show ¬ FitsU t vt i s.size from fun h => h.2.2.1.elim h4 h6)
          clear h4 h6
          go_wp2_with fail
          go_ret
          exact SaysP.no HY.out HB3.out

theorem fitsU_iff (t vt i : Int) (s : ByteArray) : FitsU t vt i s.size ↔ FitsV t (vt, i, s) := ⟨fun ⟨a, b, c, d⟩ => ⟨⟨a, b⟩, c, d⟩, fun ⟨⟨a, b⟩, c, d⟩ => ⟨a, b, c, d⟩⟩
theorem refFits_c (t vt i : Int) (s : ByteArray) (w : World) : Calls Tryd.prog 55 #[.int .i64 t, .agg #[.int .i64 vt, .int .i64 i, .string s]] w (TellsP (FitsV t (vt, i, s)) w) :=
  (refFits1 t vt i s w).mono fun e w' ⟨r, hr, he, hb⟩ => ⟨r, hr.trans (fitsU_iff t vt i s), he, hb⟩
end Go.Proofs.YtklohbglkbhjhaaDoor
