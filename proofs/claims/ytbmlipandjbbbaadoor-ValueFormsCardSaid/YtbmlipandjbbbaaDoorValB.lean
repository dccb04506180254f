/- Walks of package value: May, Fits, width, rank; and the reference's. -/
import Derived.Test.YtbmlipandjbbbaaDoorValA
import Derived.Test.YtbmlipandjbbbaaDoorOrd
import Derived.Stop.IfaceNil
namespace Go.Proofs.YtbmlipandjbbbaaDoor
open Go.RowKit
set_option linter.unusedVariables false

/-- A call that says whether p, and leaves what was there. -/
def SaysP (p : Prop) (w : World) (e : Ending) (w' : World) : Prop := ∃ r : Bool, (r = true ↔ p) ∧ e = .returned (.bool r) ∧ Below w.heap.size w w'
theorem SaysP.yes {p : Prop} {w w' : World} (h : p) (hb : Below w.heap.size w w') : SaysP p w (.returned (.bool true)) w' := ⟨true, by simp [h], rfl, hb⟩
theorem SaysP.no {p : Prop} {w w' : World} (h : ¬ p) (hb : Below w.heap.size w w') : SaysP p w (.returned (.bool false)) w' := ⟨false, by simp [h], rfl, hb⟩

def widthV (t : Int) : Nat := if t = 1 then 2 else if t = 2 then 8 else if t = 3 then 1 else 0

theorem width_any (t : Int) (w : World) : Calls Tryd.prog 40 #[.int .i64 t] w fun e w' => e = .returned (.int .i64 (widthV t : Nat)) ∧ w = w' := by
  go_enter Tryd.func40, Tryd.ntmps40
  go_wp2_with fail
  all_goals go_ret
  all_goals simp only [beq_iff_eq, beq_eq_false_iff_ne, ne_eq] at *
  all_goals exact ⟨ret_int (by simp [widthV, *]), by first | rfl | trivial⟩
theorem rank_any (t i : Int) (s : ByteArray) (w : World) : Calls Tryd.prog 42 #[.agg #[.int .i64 t, .int .i64 i, .string s]] w fun e w' => e = .returned (.int .i64 (rankV t)) ∧ Below w.heap.size w w' := by
  have HE1 := Lib.hid (fun o : Obj => (Below.refl w.heap.size w).alloc (Nat.le_refl _) o)
  go_enter Tryd.func42, Tryd.ntmps42
  go_wp2_with fail
  all_goals go_ret
  all_goals simp only [beq_iff_eq, beq_eq_false_iff_ne, ne_eq] at *
  all_goals exact ⟨ret_int (by simp [rankV, *]), HE1.out _⟩
theorem class_any (t i : Int) (s : ByteArray) (w : World) : Calls Tryd.prog 46 #[.agg #[.int .i64 t, .int .i64 i, .string s]] w fun e w' => e = .returned (.int .i64 (rankV t)) ∧ Below w.heap.size w w' := by
  have HE1 := Lib.hid (fun o : Obj => (Below.refl w.heap.size w).alloc (Nat.le_refl _) o)
  go_enter Tryd.func46, Tryd.ntmps46
  go_wp2_with fail
  all_goals go_ret
  all_goals simp only [beq_iff_eq, beq_eq_false_iff_ne, ne_eq] at *
  all_goals exact ⟨ret_int (by simp [rankV, *]), HE1.out _⟩

set_option maxRecDepth 100000 in
theorem may_any (t i : Int) (s : ByteArray) (a0 a2 a3 a4 : Addr) (w : World) (hs : Sents w w.heap.size a0 a2 a3 a4) :
    Calls Tryd.prog 15 #[.agg #[.int .i64 t, .int .i64 i, .string s]] w (SaysP (MayV t i s.size) w) := by
  obtain ⟨w1, hw1⟩ : ∃ w1 : World, w.alloc (.cells #[.int .i64 t, .int .i64 i, .string s] 23) = w1 := ⟨_, rfl⟩
  have b1 : Below w.heap.size w w1 := hw1 ▸ (Below.refl _ _).alloc (Nat.le_refl _) _
  have HC := Lib.hid (check_any t i s a0 a2 a3 a4 w1 ((hs.below b1).more b1.size))
  have HB := Lib.hid b1
  have HW := Lib.hid hw1
  clear hs hw1 b1
  go_enter Tryd.func15, Tryd.ntmps15
  go_wp2_with fail
  rw [HW.out]
  refine HC.out.mono ?_
  rintro e w2 ⟨h, b2⟩
  have HB2 := Lib.hid (HB.out.trans (b2.mono HB.out.size))
  clear b2
  rcases h with ⟨hm, rfl⟩ | ⟨hm, p, rfl⟩
  · have HM := Lib.hid hm
    clear hm
    go_wp2_with fail
    go_ret
    exact SaysP.yes HM.out HB2.out
  · have HM := Lib.hid hm
    have hif : Tryd.prog.isIface 49 = true := by kernel_rfl
    have heq := run_eql_iface_nil (P := Tryd.prog) (w := w2) 49 hif 72 (.pointer (some p))
    clear hm
    go_wp2_with fail
    go_ret
    exact SaysP.no HM.out HB2.out

set_option maxRecDepth 100000 in
theorem refMay_any (t i : Int) (s : ByteArray) (w : World) :
    Calls Tryd.prog 16 #[.agg #[.int .i64 t, .int .i64 i, .string s]] w (SaysP (MayV t i s.size) w) := by
  have HE1 := Lib.hid (fun o : Obj => (Below.refl w.heap.size w).alloc (Nat.le_refl _) o)
  by_cases hz : s.size = 0
  · have hse : s.toList.isEmpty = true := by
      rw [Lib.toList_data]; cases s with | mk d => simpa [ByteArray.size] using hz
    go_enter Tryd.func16, Tryd.ntmps16
    go_wp2_with fail
    all_goals go_ret
    all_goals simp only [ne_eq, beq_iff_eq, beq_eq_false_iff_ne] at *
    all_goals first
      | exact SaysP.yes (by unfold MayV; omega) (HE1.out _)
      | exact SaysP.no (by unfold MayV; omega) (HE1.out _)
      | exact ⟨_, by unfold MayV; simp; omega, rfl, HE1.out _⟩
  · have hse : s.toList.isEmpty = false := by
      rw [Lib.toList_data]; cases s with | mk d => simpa [ByteArray.size] using hz
    go_enter Tryd.func16, Tryd.ntmps16
    go_wp2_with fail
    all_goals go_ret
    all_goals simp only [ne_eq, beq_iff_eq, beq_eq_false_iff_ne] at *
    all_goals first
      | exact SaysP.yes (by unfold MayV; omega) (HE1.out _)
      | exact SaysP.no (by unfold MayV; omega) (HE1.out _)
      | exact ⟨_, by unfold MayV; simp; omega, rfl, HE1.out _⟩

theorem isType_any (t : Int) (w : World) : Calls Tryd.prog 38 #[.int .i64 t] w (SaysP (1 ≤ t ∧ t ≤ 4) w) := by
  go_enter Tryd.func38, Tryd.ntmps38
  go_wp2_with fail
  all_goals go_ret
  all_goals first
    | exact SaysP.yes (by omega) (Below.refl _ _)
    | exact SaysP.no (by omega) (Below.refl _ _)
    | exact ⟨_, by simp; omega, rfl, Below.refl _ _⟩

/-- Which values fit a column of a type. -/
def FitsV (t vt i : Int) (n : Nat) : Prop := 1 ≤ t ∧ t ≤ 4 ∧ (vt = 0 ∨ vt = t) ∧ MayV vt i n

set_option maxRecDepth 100000 in
theorem fits_any (t vt i : Int) (s : ByteArray) (a0 a2 a3 a4 : Addr) (w : World) (hs : Sents w w.heap.size a0 a2 a3 a4) :
    Calls Tryd.prog 17 #[.int .i64 t, .agg #[.int .i64 vt, .int .i64 i, .string s]] w (SaysP (FitsV t vt i s.size) w) := by
  obtain ⟨w1, hw1⟩ : ∃ w1 : World, w.alloc (.cells #[.int .i64 vt, .int .i64 i, .string s] 23) = w1 := ⟨_, rfl⟩
  have b1 : Below w.heap.size w w1 := hw1 ▸ (Below.refl _ _).alloc (Nat.le_refl _) _
  have HC := Lib.hid (may_any vt i s a0 a2 a3 a4 w1 ((hs.below b1).more b1.size))
  have HB := Lib.hid b1
  have HB' := Lib.hid (show Below w.heap.size w (w.alloc (.cells #[.int .i64 vt, .int .i64 i, .string s] 23)) from (Below.refl _ _).alloc (Nat.le_refl _) _)
  have HW := Lib.hid hw1
  clear hs hw1 b1
  by_cases h1 : 1 ≤ t ∧ t ≤ 4
  · obtain ⟨h1, h2⟩ := h1
    by_cases h3 : vt = 0 ∨ vt = t
    · by_cases h4 : vt = 0
      · subst h4
        have HF := Lib.hid (show MayV 0 i s.size → FitsV t 0 i s.size from fun h => ⟨h1, h2, .inl rfl, h⟩)
        go_enter Tryd.func17, Tryd.ntmps17
        go_wp2_with fail
        rw [HW.out]
        refine HC.out.mono ?_
        rintro e w2 ⟨r, hr, rfl, b2⟩
        have HB2 := Lib.hid (HB.out.trans (b2.mono HB.out.size))
        have HR := Lib.hid hr
        clear b2 hr
        go_wp2_with fail
        go_ret
        exact ⟨r, ⟨fun h => HF.out (HR.out.1 h), fun h => HR.out.2 h.2.2.2⟩, rfl, HB2.out⟩
      · have ht : vt = t := by omega
        subst ht
        have HF := Lib.hid (show MayV vt i s.size → FitsV vt vt i s.size from fun h => ⟨h1, h2, .inr rfl, h⟩)
        have h5 : (vt == 0) = false := by simp [h4]
        clear h3 h4
        go_enter Tryd.func17, Tryd.ntmps17
        go_wp2_with fail
        rw [HW.out]
        refine HC.out.mono ?_
        rintro e w2 ⟨r, hr, rfl, b2⟩
        have HB2 := Lib.hid (HB.out.trans (b2.mono HB.out.size))
        have HR := Lib.hid hr
        clear b2 hr
        go_wp2_with fail
        go_ret
        exact ⟨r, ⟨fun h => HF.out (HR.out.1 h), fun h => HR.out.2 h.2.2.2⟩, rfl, HB2.out⟩
    · have h4 : (vt == 0) = false := by simp; omega
      have h5 : (vt == t) = false := by simp; omega
      have HN := Lib.hid (show ¬ FitsV t vt i s.size from fun h => h3 h.2.2.1)
      clear h3
      go_enter Tryd.func17, Tryd.ntmps17
      go_wp2_with fail
      go_ret
      exact SaysP.no HN.out HB'.out
  · go_enter Tryd.func17, Tryd.ntmps17
    have hn : ¬ FitsV t vt i s.size := fun h => h1 ⟨h.1, h.2.1⟩
    have HN := Lib.hid hn
    clear hn
    by_cases h2 : t < 1
    · go_wp2_with fail
      go_ret
      exact SaysP.no HN.out HB'.out
    · have h3 : 4 < t := by omega
      go_wp2_with fail
      go_ret
      exact SaysP.no HN.out HB'.out
end Go.Proofs.YtbmlipandjbbbaaDoor
