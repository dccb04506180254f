/- Walks of what the laws lean on: Handed, Same. -/
import Derived.Test.YtifejanbgobngaaDoorStr
import Derived.Test.YtifejanbgobngaaDoorAppend
import Derived.Outline
import Derived.WalkLawsBesides
import Derived.WalkSpells
import Derived.PlainAid
import Derived.Lib.Hide
import Derived.Deep.QuietTactic
import Derived.BigQuiet
import Derived.RegionTactic
import Derived.BigRegion
import Derived.Handy
import Derived.Laws.BitsAllLaws
namespace Go.Proofs.YtifejanbgobngaaDoor
open Go.RowKit
set_option linter.unusedVariables false

/-- What stands behind the bytes that are handed in. -/
def behind : List Nat := [161, 162, 163, 164, 165]

theorem run_make_cap (n c : Nat) (hnc : n ≤ c) (hc : c ≤ 1000000) (w : World) :
    (Instr.makeSlice 22 (.int .i64 (n : Int)) (.int .i64 (c : Int))).run Tryd.prog w = .ok (.slice (some ⟨w.heap.size, 0, none⟩) n c) (w.alloc (.cells (madeCells #[.int .u8 0] c) 5)) := by
  obtain ⟨i, hi, hz, hs, hb⟩ := info_parts info_u8
  have hr := run_make (P := Tryd.prog) w 22 5 i (.int .u8 0) Tryd.underlying22 hi hz .i64 .i64 n c (by omega) (by omega) (by rw [hb]; omega) (by omega)
  rw [hs, Nat.mul_one, show (Value.int IntKind.u8 0).cells = #[Value.int IntKind.u8 0] from rfl] at hr
  simpa using hr

theorem fill_step (b : List Nat) (j n : Nat) (hj : j < b.length) (hn : b.length ≤ n) : (b.take j ++ List.replicate (n - j) 0).set j b[j] = b.take (j + 1) ++ List.replicate (n - (j + 1)) 0 := by
  rw [List.set_append_right _ _ (by simp; omega), List.length_take_of_le (by omega), Nat.sub_self, show n - j = (n - (j + 1)) + 1 by omega, List.replicate_succ, List.set_cons_zero, List.take_succ_eq_append_getElem (by omega), List.append_assoc]
  rfl
theorem fill_behind (b : List Nat) (j : Nat) (hj : j < 5) : (b ++ behind.take j ++ List.replicate (5 - j) 0).set (b.length + j) (161 + j) = b ++ behind.take (j + 1) ++ List.replicate (5 - (j + 1)) 0 := by
  rw [List.append_assoc, List.set_append_right _ _ (by omega), show b.length + j - b.length = j by omega, List.append_assoc]
  congr 1
  match j, hj with
  | 0, _ => rfl
  | 1, _ => rfl
  | 2, _ => rfl
  | 3, _ => rfl
  | 4, _ => rfl

set_option maxRecDepth 100000 in
theorem handed_any (A : Option Addr) (n c : Nat) (b : List Nat) (w : World) (hn : n = b.length) (hr : Rd w w.heap.size A (ints .u8 b)) (hb : b.length ≤ 1000) :
    Calls Tryd.prog 16 #[.slice A n c] w fun e w' => e = .returned (.slice (some ⟨w.heap.size, 0, none⟩) b.length (b.length + 5)) ∧ Row w' w.heap.size 5 .u8 (b ++ behind) ∧ Below w.heap.size w w' := by
  subst hn
  have HR := Lib.hid hr
  clear hr
  have hmk := fun W => run_make_cap b.length (b.length + 5) (by omega) (by omega) W
  have ec : ((b.length + 5 : Nat) : Int) = (b.length : Int) + 5 := by omega
  rw [ec] at hmk
  clear ec
  go_enter Tryd.func16, Tryd.ntmps16
  go_wp2_with fail
  clear hmk
  go_loopw [4] (fun i wr => ∃ j : Nat, j ≤ b.length ∧ i = .int .i64 j ∧ Row wr w.heap.size 5 .u8 (b.take j ++ List.replicate (b.length + 5 - j) 0) ∧ Below w.heap.size w wr) (fun i _ => b.length - (intOf i).toNat)
  case atStart =>
    refine ⟨0, Nat.zero_le _, rfl, ?_, (Below.refl _ _).alloc (Nat.le_refl _) _⟩
    simp only [List.take_zero, List.nil_append, Nat.sub_zero]
    exact Row.made w _ .u8 (b.length + 5)
  case round =>
    obtain ⟨j, hj, rfl, hrow, hbel⟩ := hrel
    by_cases hlt : j < b.length
    · obtain ⟨bb, off, rfl, hbb, hc⟩ := (HR.out.below hbel).at_ (k := j) (by rw [ints_length]; exact hlt)
      simp only [ints, List.getElem_map] at hc
      have HS := Lib.hid (fill_step b j (b.length + 5) hlt (by omega))
      obtain ⟨x, hxe⟩ : ∃ x, x = b[j] := ⟨_, rfl⟩
      rw [← hxe] at hc HS
      obtain ⟨old, hold⟩ : ∃ old : Int, wr.cell? ⟨w.heap.size, j, none⟩ = some (.int .u8 old) := ⟨_, hrow.cell j (by simp; omega)⟩
      have hfr := hrow.frozen j
      have HN := Lib.hid (hrow.set' j x (x : Int) rfl _ HS.out)
      have HB := Lib.hid (hbel.setCell (p := ⟨w.heap.size, j, none⟩) (Nat.le_refl _) (.int .u8 (x : Int)))
      clear hrow hbel hxe
      go_wp2_with fail
      go_roundw
      case rel => exact ⟨j + 1, hlt, by go_num, HN.out, HB.out⟩
      case measure => simp [intOf]; omega
    · have hfin : b.take j ++ List.replicate (b.length + 5 - j) 0 = b ++ behind.take 0 ++ List.replicate (5 - 0) 0 := by
        rw [List.take_of_length_le (by omega), show b.length + 5 - j = 5 by omega]; simp
      rw [hfin] at hrow
      have HROW := Lib.hid hrow
      have HBEL := Lib.hid hbel
      clear hrow hbel hfin
      go_wp2_with fail
      go_loopw [6] (fun i wi => ∃ t : Nat, t ≤ 5 ∧ i = .int .i64 t ∧ Row wi w.heap.size 5 .u8 (b ++ behind.take t ++ List.replicate (5 - t) 0) ∧ Below w.heap.size w wi) (fun i _ => 5 - (intOf i).toNat)
      case atStart => exact ⟨0, by omega, rfl, HROW.out, HBEL.out⟩
      case round =>
        obtain ⟨t, ht, rfl, hrow, hbel⟩ := hrel
        by_cases ht5 : t < 5
        · obtain ⟨old, hold⟩ : ∃ old : Int, wr.cell? ⟨w.heap.size, b.length + t, none⟩ = some (.int .u8 old) := ⟨_, hrow.cell (b.length + t) (by simp [behind]; omega)⟩
          have hfr := hrow.frozen (b.length + t)
          have HN := Lib.hid (hrow.set' (b.length + t) (161 + t) (161 + (t : Int)) (by omega) _ (fill_behind b t ht5))
          have HB := Lib.hid (hbel.setCell (p := ⟨w.heap.size, b.length + t, none⟩) (Nat.le_refl _) (.int .u8 (161 + (t : Int))))
          clear hrow hbel
          go_wp2_with fail
          go_roundw
          case rel => exact ⟨t + 1, ht5, by go_num, HN.out, HB.out⟩
          case measure => simp [intOf]; omega
        · have hfin : b ++ behind.take t ++ List.replicate (5 - t) 0 = b ++ behind := by
            rw [show 5 - t = 0 by omega, List.take_of_length_le (by simp [behind]; omega)]; simp
          rw [hfin] at hrow
          have HROWI := Lib.hid hrow
          have HBELI := Lib.hid hbel
          clear hrow hbel hfin
          go_wp2_with fail
          go_ret
          exact ⟨rfl, HROWI.out, HBELI.out⟩

theorem behind_get (t : Nat) (ht : t < 5) : behind[t]'(by simp [behind]; omega) = 161 + t := by
  match t, ht with
  | 0, _ => rfl
  | 1, _ => rfl
  | 2, _ => rfl
  | 3, _ => rfl
  | 4, _ => rfl

set_option maxRecDepth 100000 in
theorem same_any (g : Nat) (A : Option Addr) (n c cc : Nat) (b : List Nat) (w : World) (hn : n = b.length) (hcc : cc = b.length + 5) (hx : Row w g 5 .u8 (b ++ behind)) (hr : Rd w w.heap.size A (ints .u8 b)) (hb : b.length ≤ 1000) :
    Calls Tryd.prog 20 #[.slice (some ⟨g, 0, none⟩) n cc, .slice A n c] w fun e w' => e = .returned (.bool true) ∧ w = w' := by
  subst hn hcc
  have hrx : Rd w w.heap.size (some ⟨g, 0, none⟩) (ints .u8 b) := by
    have h := hx.rd.take b.length
    rw [ints_take, List.take_left] at h
    exact h
  have hcv1 := run_bstr (P := Tryd.prog) 22 5 9 Tryd.underlying22 Tryd.underlying5 Tryd.underlying9 _ b.length (b.length + 5) b rfl w _ hrx
  have hcv2 := run_bstr (P := Tryd.prog) 22 5 9 Tryd.underlying22 Tryd.underlying5 Tryd.underlying9 A b.length c b rfl w _ hr
  obtain ⟨S, hS⟩ : ∃ S, S = bstr b := ⟨_, rfl⟩
  rw [← hS] at hcv1 hcv2
  have HX := Lib.hid hx
  clear hS hrx hr hx
  go_enter Tryd.func20, Tryd.ntmps20
  go_wp2_with fail
  go_loop [6] (fun i => ∃ t : Nat, t ≤ 5 ∧ i = .int .i64 t) (fun i => 5 - (intOf i).toNat)
  case atStart => exact ⟨0, by omega, rfl⟩
  case round =>
    obtain ⟨t, ht, rfl⟩ := hrel
    by_cases ht5 : t < 5
    · have hc := HX.out.cell (b.length + t) (by simp [behind]; omega)
      rw [List.getElem_append_right (by omega)] at hc
      simp only [show b.length + t - b.length = t by omega, behind_get t ht5] at hc
      have e : ((161 + t : Nat) : Int) = 161 + (t : Int) := by omega
      rw [e] at hc
      have hne : ((161 + (t : Int)) != (161 + (t : Int))) = false := by simp
      clear e
      go_wp2_with fail
      go_round
      case rel => exact ⟨t + 1, ht5, by go_num⟩
      case measure => simp [intOf]; omega
    · go_wp2_with fail
      go_ret
      exact ⟨rfl, rfl⟩
end Go.Proofs.YtifejanbgobngaaDoor
