/- Walks of package bits: Put. -/
import Derived.Test.YtfcedbhmbcbiaaaDoorBitsE
import Derived.Test.YtfcedbhmbcbiaaaDoorBase
namespace Go.Proofs.YtfcedbhmbcbiaaaDoor
open Go.RowKit
set_option linter.unusedVariables false

theorem putNo (A : Option Addr) (c : Nat) (l : List Nat) (k : Int) (w : World) (B : Nat) (hr : Rd w B A (ints .u64 l)) (hl : l.length ≤ 1000) (h64 : ∀ x ∈ l, x < 18446744073709551616)
    (h : k < 0 ∨ 64 < k ∨ k < widL l) :
    Calls Tryd.prog 23 #[.slice A l.length c, .int .i64 k] w fun e w' => e = .returned (.tuple #[.slice none 0 0, .bool false]) ∧ w = w' := by
  have HW := Lib.hid (width_any A c l w B hr (by omega) h64)
  clear hr
  rcases Int.lt_or_le k 0 with h1 | h1
  · go_enter Tryd.func23, Tryd.ntmps23
    go_wp2_with fail
    go_ret2
    exact ⟨rfl, rfl⟩
  · rcases Int.lt_or_le 64 k with h2 | h2
    · go_enter Tryd.func23, Tryd.ntmps23
      go_wp2_with fail
      go_ret2
      exact ⟨rfl, rfl⟩
    · have h3 : k < widL l := by omega
      clear h
      go_enter Tryd.func23, Tryd.ntmps23
      go_wp2_with (go_at_call 39; refine HW.out.mono ?_; rintro e w' ⟨rfl, rfl⟩)
      go_ret2
      exact ⟨rfl, rfl⟩

theorem putYes (A : Option Addr) (c : Nat) (l : List Nat) (k : Nat) (w : World) (hr : Rd w w.heap.size A (ints .u64 l)) (hl : l.length ≤ 1000) (h64 : ∀ x ∈ l, x < 18446744073709551616)
    (hk : k ≤ 64) (hw : widL l ≤ k) :
    Calls Tryd.prog 23 #[.slice A l.length c, .int .i64 k] w fun e w' => e = .returned (.tuple #[.slice (some ⟨w.heap.size, 0, none⟩) ((l.length * k + 7) / 8) ((l.length * k + 7) / 8), .bool true]) ∧
      Row w' w.heap.size 5 .u8 (chop 8 (cat k l) ((l.length * k + 7) / 8)) ∧ Below w.heap.size w w' := by
  have HW := Lib.hid (width_any A c l w _ hr (by omega) h64)
  have hlk : l.length * k ≤ 64000 := Nat.le_trans (Nat.mul_le_mul hl hk) (by decide)
  have HS := Lib.hid (size_any l.length k (by omega) w)
  have HR := Lib.hid hr
  clear hr
  have hn : (l.length * k + 7) / 8 ≤ 8001 := by omega
  obtain ⟨n, hne⟩ : ∃ n, n = (l.length * k + 7) / 8 := ⟨_, rfl⟩
  rw [← hne] at HS hn ⊢
  have HN := Lib.hid hne
  clear hne
  have hmk := fun W => run_make_row' (P := Tryd.prog) 22 5 (.int .u8 0) 1 Tryd.underlying22 info_u8 rfl .i64 .i64 n (by omega) (by omega) W
  go_enter Tryd.func23, Tryd.ntmps23
  go_wp2_with (first | (go_at_call 39; refine HW.out.mono ?_; rintro e w' ⟨rfl, rfl⟩) | (go_at_call 40; refine HS.out.mono ?_; rintro e w' ⟨rfl, rfl⟩))
  have hxl : ∀ x ∈ l, x < 2 ^ k := (widL_le l k).1 hw
  have HXL := Lib.hid hxl
  clear hxl hmk HW HS
  go_loopw [28] (fun i wr => ∃ j : Nat, j ≤ l.length ∧ i = .int .i64 j ∧ Row wr w.heap.size 5 .u8 (chop 8 (cat k (l.take j)) n) ∧ Below w.heap.size w wr) (fun i _ => l.length - (intOf i).toNat)
  case atStart =>
    refine ⟨0, Nat.zero_le _, rfl, ?_, (Below.refl _ _).alloc (Nat.le_refl _) _⟩
    rw [List.take_zero, show cat k [] = 0 from rfl, chop_zero]
    exact Row.made w _ .u8 n
  case round =>
    obtain ⟨j, hj, rfl, hrow, hbel⟩ := hrel
    by_cases hlt : j < l.length
    · obtain ⟨b, off, rfl, hb, hc⟩ := (HR.out.below hbel).at_ (k := j) (by rw [ints_length]; exact hlt)
      simp only [ints, List.getElem_map] at hc
      have hx := h64 _ (List.getElem_mem hlt)
      have HC := Lib.hid (cat_snoc k j l hlt)
      have hjk : j * k ≤ 64000 := Nat.le_trans (Nat.mul_le_mul_right _ hj) hlk
      have h1 : (j : Int) * (k : Int) ≤ 64000 := by have := Int.ofNat_le.2 hjk; simpa using this
      have h0 : 0 ≤ (j : Int) * (k : Int) := Int.mul_nonneg (by omega) (by omega)
      obtain ⟨x, hxe⟩ : ∃ x, x = l[j] := ⟨_, rfl⟩
      rw [← hxe] at hc hx HC
      clear hxe
      have HL := Lib.hid (lay_any w.heap.size n ((j : Int) * (k : Int)) (j * k) x (cat k (l.take j)) (cat k (l.take (j + 1))) wr hrow (by simp) hx (cat_take_lt k j l HXL.out hj) (by omega) (by omega) HC.out.symm
        (cat_take_end k (j + 1) n l HXL.out hlt HN.out))
      have HB := Lib.hid hbel
      have HBS := Lib.hid hbel.size
      clear hrow hbel
      go_wp2_with (go_at_call 41; refine HL.out.mono ?_; rintro e w2 ⟨rfl, hrow2, hg2⟩)
      have HRow := Lib.hid hrow2
      have HG := Lib.hid hg2
      clear hrow2 hg2
      go_wp2
      go_roundw
      case rel => exact ⟨j + 1, hlt, by go_num, HRow.out, HB.out.grown HG.out HBS.out (fun q hq => by injection hq with hq; omega)⟩
      case measure => simp [intOf]; omega
    · have hfin : l.take j = l := List.take_of_length_le (by omega)
      rw [hfin] at hrow
      have HRow := Lib.hid hrow
      have HB := Lib.hid hbel
      clear hrow hbel hfin
      go_wp2
      go_ret2
      exact ⟨rfl, HRow.out, HB.out⟩
end Go.Proofs.YtfcedbhmbcbiaaaDoor
