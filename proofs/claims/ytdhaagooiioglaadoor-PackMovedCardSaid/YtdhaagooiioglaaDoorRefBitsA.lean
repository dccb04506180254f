/- Walks of the document's answer for bits: width, Width, PutBits. -/
import Derived.Test.YtdhaagooiioglaaDoorBase
import Derived.Test.YtdhaagooiioglaaDoorBitsMath
import Derived.Test.YtdhaagooiioglaaDoorRefMath
namespace Go.Proofs.YtdhaagooiioglaaDoor
open Go.RowKit
set_option linter.unusedVariables false

theorem ref_width (v : Nat) (hv : v < 18446744073709551616) (w : World) :
    Calls Tryd.prog 55 #[.int .u64 v] w fun e w' => e = .returned (.int .i64 (wid v : Int)) ∧ w = w' := by
  have h64 := wid_le64 hv
  go_enter Tryd.func55, Tryd.ntmps55
  go_wp2
  go_loop [3, 0] (fun n x => ∃ (j y : Nat), n = .int .i64 j ∧ x = .int .u64 y ∧ y < 18446744073709551616 ∧ j + wid y = wid v) (fun _ x => (intOf x).toNat)
  case atStart => exact ⟨0, v, rfl, rfl, hv, by omega⟩
  case round =>
    obtain ⟨j, y, rfl, rfl, hy, hjy⟩ := hrel
    have HJ := Lib.hid hjy
    have hj64 : j ≤ 64 := by omega
    clear hjy
    by_cases h0 : 0 < y
    · go_wp2
      go_round
      case rel => exact ⟨j + 1, y / 2, by go_num, by simp, by omega, by have := HJ.out; have := wid_half y h0; omega⟩
      case measure => simp [intOf]; omega
    · have hy0 : y = 0 := by omega
      subst hy0
      have hf : (j : Int) = (wid v : Int) := by have := HJ.out; rw [wid_zero] at this; omega
      have HF := Lib.hid hf
      clear hf
      go_wp2
      go_ret
      exact ⟨ret_int HF.out, rfl⟩

theorem ref_Width (A : Option Addr) (n c : Nat) (l : List Nat) (m : Nat) (w : World) (B : Nat) (hn : n = l.length) (hm : m = widL l) (hr : Rd w B A (ints .u64 l)) (hl : l.length ≤ 1000000) (h64 : ∀ x ∈ l, x < 18446744073709551616) :
    Calls Tryd.prog 56 #[.slice A n c] w fun e w' => e = .returned (.int .i64 (m : Int)) ∧ w = w' := by
  subst hn hm
  have hw := widL_le64
  have HR := Lib.hid hr
  clear hr
  go_enter Tryd.func56, Tryd.ntmps56
  go_wp2
  go_loop [3, 4] (fun m i => ∃ k : Nat, k ≤ l.length ∧ i = .int .i64 k ∧ m = .int .i64 (widL (l.take k) : Int)) (fun _ i => l.length - (intOf i).toNat)
  case atStart => exact ⟨0, Nat.zero_le _, rfl, rfl⟩
  case round =>
    obtain ⟨k, hk, rfl, rfl⟩ := hrel
    by_cases hlt : k < l.length
    · obtain ⟨b, off, rfl, hb, hc⟩ := HR.out.at_ (k := k) (by simpa [ints] using hlt)
      simp only [ints, List.getElem_map] at hc
      have hx := h64 _ (List.getElem_mem hlt)
      have HT := Lib.hid (widL_take l k hlt)
      obtain ⟨x, hxe⟩ : ∃ x, x = l[k] := ⟨_, rfl⟩
      rw [← hxe] at hc hx HT
      clear hxe
      go_wp2_with (go_at_call 55; refine (ref_width x hx _).mono ?_; rintro e w' ⟨rfl, rfl⟩)
      go_round
      case rel => exact ⟨k + 1, by omega, by go_num, by rw [HT.out]; first | rw [int_max] | (congr 1; split <;> omega)⟩
      case measure => simp [intOf]; omega
    · go_wp2
      go_ret
      exact ⟨ret_int (by rw [List.take_of_length_le (by omega)]), rfl⟩

theorem refBitsPut_no (A : Option Addr) (n c : Nat) (l : List Nat) (k : Int) (w : World) (B : Nat) (hn : n = l.length) (hr : Rd w B A (ints .u64 l)) (hl : l.length ≤ 1000) (h64 : ∀ x ∈ l, x < 18446744073709551616)
    (h : k < 0 ∨ 64 < k ∨ k < widL l) :
    Calls Tryd.prog 54 #[.slice A n c, .int .i64 k] w fun e w' => e = .returned (.tuple #[.slice none 0 0, .bool false]) ∧ w = w' := by
  subst hn
  have HW := Lib.hid (ref_Width A l.length c l (widL l) w B rfl rfl hr (by omega) h64)
  clear hr
  rcases Int.lt_or_le k 0 with h1 | h1
  · go_enter Tryd.func54, Tryd.ntmps54
    go_wp2_with fail
    go_ret2
    exact ⟨rfl, rfl⟩
  · rcases Int.lt_or_le 64 k with h2 | h2
    · go_enter Tryd.func54, Tryd.ntmps54
      go_wp2_with fail
      go_ret2
      exact ⟨rfl, rfl⟩
    · have h3 : k < widL l := by omega
      clear h
      go_enter Tryd.func54, Tryd.ntmps54
      go_wp2_with (go_at_call 56; refine HW.out.mono ?_; rintro e w' ⟨rfl, rfl⟩)
      go_ret2
      exact ⟨rfl, rfl⟩

theorem refBitsPut_yes (A : Option Addr) (n c : Nat) (l : List Nat) (z : Int) (k m g : Nat) (w : World) (hn : n = l.length) (hz : z = (k : Int)) (hm : m = (l.length * k + 7) / 8) (hg : g = w.heap.size)
    (hr : Rd w g A (ints .u64 l)) (hl : l.length ≤ 1000) (h64 : ∀ x ∈ l, x < 18446744073709551616) (hk : k ≤ 64) (hw : widL l ≤ k) :
    Calls Tryd.prog 54 #[.slice A n c, .int .i64 z] w fun e w' => e = .returned (.tuple #[.slice (some ⟨g, 0, none⟩) m m, .bool true]) ∧ Row w' g 5 .u8 (chop 8 (cat k l) m) ∧ Below g w w' := by
  subst hn hz hg
  have HW := Lib.hid (ref_Width A l.length c l (widL l) w _ rfl rfl hr (by omega) h64)
  have hlk : l.length * k ≤ 64000 := Nat.le_trans (Nat.mul_le_mul hl hk) (by decide)
  have h1 : (l.length : Int) * (k : Int) ≤ 64000 := by have := Int.ofNat_le.2 hlk; simpa using this
  have h0 : 0 ≤ (l.length : Int) * (k : Int) := Int.mul_nonneg (by omega) (by omega)
  have hme : ((l.length : Int) * (k : Int) + 7) / 8 = (m : Int) := by rw [hm]; simp
  have hm8 : m ≤ 8001 := by omega
  have HR := Lib.hid hr
  have HM := Lib.hid hm
  clear hr hm
  have hmk := fun W => run_make_row' (P := Tryd.prog) 22 5 (.int .u8 0) 1 Tryd.underlying22 info_u8 rfl .i64 .i64 m (by omega) (by omega) W
  go_enter Tryd.func54, Tryd.ntmps54
  go_wp2_with (go_at_call 56; refine HW.out.mono ?_; rintro e w' ⟨rfl, rfl⟩)
  have hxl : ∀ x ∈ l, x < 2 ^ k := (widL_le l k).1 hw
  have HXL := Lib.hid hxl
  clear hxl hmk HW
  go_loopw [7] (fun i wr => ∃ j : Nat, j ≤ l.length ∧ i = .int .i64 j ∧ Row wr w.heap.size 5 .u8 (chop 8 (cat k (l.take j)) m) ∧ Below w.heap.size w wr) (fun i _ => l.length - (intOf i).toNat)
  case atStart =>
    refine ⟨0, Nat.zero_le _, rfl, ?_, (Below.refl _ _).alloc (Nat.le_refl _) _⟩
    rw [List.take_zero, show cat k [] = 0 from rfl, chop_zero]
    exact Row.made w _ .u8 m
  case round =>
    obtain ⟨j, hj, rfl, hrow, hbel⟩ := hrel
    by_cases hlt : j < l.length
    · obtain ⟨b, off, rfl, hb, hc⟩ := (HR.out.below hbel).at_ (k := j) (by rw [ints_length]; exact hlt)
      simp only [ints, List.getElem_map] at hc
      have hx := h64 _ (List.getElem_mem hlt)
      have HC := Lib.hid (cat_snoc k j l hlt)
      have HX := Lib.hid (HXL.out _ (List.getElem_mem hlt))
      have hjk : (j + 1) * k ≤ l.length * k := Nat.mul_le_mul_right _ hlt
      have hjs : (j + 1) * k = j * k + k := Nat.succ_mul j k
      obtain ⟨p, hp⟩ : ∃ p, p = j * k := ⟨_, rfl⟩
      have hpe : (j : Int) * (k : Int) = (p : Int) := by rw [hp]; simp
      have hpk : p + k ≤ l.length * k := by omega
      obtain ⟨x, hxe⟩ : ∃ x, x = l[j] := ⟨_, rfl⟩
      rw [← hxe] at hc hx HC HX
      rw [← hp] at HC
      have HM0 := Lib.hid (by have := cat_take_lt k j l HXL.out hj; rwa [← hp] at this)
      obtain ⟨M, hM⟩ : ∃ M, M = cat k (l.take j) := ⟨_, rfl⟩
      rw [← hM] at HC hrow HM0
      clear hxe hp hjs hjk hM
      have HROW := Lib.hid hrow
      have HBEL := Lib.hid hbel
      clear hrow hbel
      go_wp2_with fail
      have hpm : p + k ≤ 8 * m := by have := HM.out; omega
      go_loopw [9, 8] (fun q u wi => ∃ i : Nat, i ≤ k ∧ q = .int .i64 i ∧ u = .int .u64 (x / 2 ^ i : Nat) ∧ Row wi w.heap.size 5 .u8 (chop 8 (M + (x % 2 ^ i) * 2 ^ p) m) ∧ Below w.heap.size w wi) (fun q _ _ => k - (intOf q).toNat)
      case atStart => exact ⟨0, Nat.zero_le _, rfl, by simp, by simpa [Nat.mod_one] using HROW.out, HBEL.out⟩
      case round =>
        obtain ⟨i, hi, rfl, rfl, hrow, hbel⟩ := hrel
        by_cases hik : i < k
        · have hq : (p + i) / 8 < m := by omega
          have hcell := hrow.cell ((p + i) / 8) (by rw [chop_length]; exact hq)
          have hy := chop_lt 8 m (M + (x % 2 ^ i) * 2 ^ p) _ (List.getElem_mem (by rw [chop_length]; exact hq))
          have hfr := hrow.frozen ((p + i) / 8)
          obtain ⟨y, hye⟩ : ∃ y, y = (chop 8 (M + (x % 2 ^ i) * 2 ^ p) m)[(p + i) / 8]'(by rw [chop_length]; exact hq) := ⟨_, rfl⟩
          rw [← hye] at hcell hy
          have HY := Lib.hid hye
          have HROWI := Lib.hid hrow
          have HBELI := Lib.hid hbel
          have hv : x / 2 ^ i < 18446744073709551616 := shr_lt _ _ hx
          obtain ⟨v, hve⟩ : ∃ v, v = x / 2 ^ i := ⟨_, rfl⟩
          rw [← hve] at hv ⊢
          have HV := Lib.hid hve
          clear hye hrow hbel hve
          go_wp2_with fail
          go_region
          go_wp2
          go_roundw
          case rel =>
            refine ⟨i + 1, hik, by go_num, by rw [HV.out, Nat.pow_succ, ← Nat.div_div_eq_div_mul]; simp, ?_, (HBELI.out.setCell (Nat.le_refl _) _).drew⟩
            refine Row.drew (HROWI.out.set' _ ((y + v % 2 * 2 ^ ((p + i) % 8)) % 256) _ (by simp) _ ?_)
            rw [HV.out]
            exact refStep M x p i m y HM0.out (by rw [HY.out, chop_get])
          case measure => simp [intOf]; omega
        · have hie : i = k := by omega
          subst hie
          rw [Nat.mod_eq_of_lt HX.out, ← HC.out] at hrow
          have HROWI := Lib.hid hrow
          have HBELI := Lib.hid hbel
          clear hrow hbel
          go_wp2
          go_roundw
          case rel => exact ⟨j + 1, hlt, by go_num, HROWI.out, HBELI.out⟩
          case measure => simp [intOf]; omega
    · have hfin : l.take j = l := List.take_of_length_le (by omega)
      rw [hfin] at hrow
      have HRow := Lib.hid hrow
      have HB := Lib.hid hbel
      clear hrow hbel hfin
      go_wp2
      go_ret2
      exact ⟨rfl, HRow.out, HB.out⟩
end Go.Proofs.YtdhaagooiioglaaDoor
