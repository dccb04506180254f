
import Derived.Test.YtldalkhmbpkjpaaGreatDoorBase
import Derived.Test.YtldalkhmbpkjpaaGreatDoorNumMath
import Derived.Test.YtldalkhmbpkjpaaGreatDoorChecked
import Derived.Outline
import Derived.WalkLawsBesides
import Derived.WalkSpells
import Derived.PlainAid
import Derived.Lib.Hide
import Derived.Deep.QuietTactic
import Derived.BigQuiet
import Derived.RegionTactic
import Derived.BigRegion
import Derived.Handy
import Derived.Test.YtldalkhmbpkjpaaGreatDoorShelf
import Derived.Laws.BitsAllLaws
import Derived.Laws.BitsLemmas
import Derived.Test.YtldalkhmbpkjpaaGreatDoorCell
import Derived.Test.YtldalkhmbpkjpaaGreatDoorPlainMath
/- Walks of package bits, one contract a function: size, ended, Len64, Width. -/

namespace Go.Proofs.YtldalkhmbpkjpaaGreatDoor
set_option linter.unusedVariables false
open Go.RowKit

theorem size_any (n k : Nat) (h : n * k ≤ 1000000) (w : World) :
    Calls Tryz.prog 113 #[.int .i64 n, .int .i64 k] w fun e w' => e = .returned (.int .i64 (((n * k + 7) / 8 : Nat) : Int)) ∧ w = w' := by
  have h1 : (n : Int) * (k : Int) ≤ 1000000 := by have := Int.ofNat_le.2 h; simpa using this
  have h0 : 0 ≤ (n : Int) * (k : Int) := Int.mul_nonneg (by omega) (by omega)
  go_enter Tryz.func113, Tryz.ntmps113
  go_wp2
  go_ret
  exact ⟨by simp, rfl⟩

theorem ended_any (A : Option Addr) (c : Nat) (l : List Nat) (at_ : Nat) (w : World) (B : Nat) (hr : Rd w B A (ints .u8 l)) (ha : at_ ≤ 8000000) (hl : at_ % 8 ≠ 0 → at_ / 8 < l.length) (h256 : ∀ x ∈ l, x < 256) :
    Calls Tryz.prog 121 #[.slice A l.length c, .int .i64 at_] w fun e w' => e = .returned (.bool (at_ % 8 == 0 || l.getD (at_ / 8) 0 / 2 ^ (at_ % 8) == 0)) ∧ w = w' := by
  by_cases h8 : at_ % 8 = 0
  · have hd : ((at_ : Int) % 8 == 0) = true := by simp; omega
    go_enter Tryz.func121, Tryz.ntmps121
    go_wp2
    go_ret
    exact ⟨by simp [h8], rfl⟩
  · have hi := hl h8
    have hd : ((at_ : Int) % 8 == 0) = false := by simp; omega
    obtain ⟨b, off, rfl, hb, hc⟩ := hr.at_ (k := at_ / 8) (by simpa [ints] using hi)
    simp only [ints, List.getElem_map] at hc
    have hx := h256 _ (List.getElem_mem hi)
    obtain ⟨x, hxe⟩ : ∃ x, x = l[at_ / 8] := ⟨_, rfl⟩
    rw [← hxe] at hc hx
    have HX := Lib.hid hxe
    clear hxe
    go_enter Tryz.func121, Tryz.ntmps121
    go_wp2
    go_ret
    refine ⟨?_, rfl⟩
    have e : ((x : Int) / 2 ^ (at_ % 8) == 0) = (at_ % 8 == 0 || l.getD (at_ / 8) 0 / 2 ^ (at_ % 8) == 0) := by
      rw [List.getD_eq_getElem?_getD, List.getElem?_eq_getElem hi, Option.getD_some, ← HX.out]
      have := nat_beq0 (x / 2 ^ (at_ % 8))
      rw [show (at_ % 8 == 0) = false by simp [h8], Bool.false_or, ← this]
      simp
    exact congrArg (fun z => Ending.returned (.bool z)) e
end Go.Proofs.YtldalkhmbpkjpaaGreatDoor

/- Walks of package bits, one contract a function: Len64 (the shelf's), Width. -/

namespace Go.Proofs.YtldalkhmbpkjpaaGreatDoor
set_option linter.unusedVariables false
open Go.RowKit

theorem bitLenAux_wid : ∀ (f x : Nat), x < 2 ^ f → Lib.bitLenAux f x = wid x
  | 0, x, h => by
    have : x = 0 := by simpa using h
    subst this; rfl
  | f + 1, x, h => by
    unfold Lib.bitLenAux
    split
    · subst_vars; rfl
    · rename_i hx
      have h2 : x / 2 < 2 ^ f := by
        rw [Nat.pow_succ] at h
        exact (Nat.div_lt_iff_lt_mul (by omega)).2 h
      rw [bitLenAux_wid f _ h2, wid_half x (by omega), Nat.add_comm]

theorem len64_any (v : Nat) (hv : v < 18446744073709551616) (w : World) :
    Calls Tryz.prog 116 #[.int .u64 v] w fun e w' => e = .returned (.int .i64 (wid v : Int)) ∧ w = w' := by
  refine (Tryz.bits_Len64 (v : Int) w (by omega) (by omega)).mono fun e w' ⟨he, hw⟩ => ⟨?_, hw.symm⟩
  rw [he]
  have : Lib.bitLen (v : Int).toNat = wid v := by
    rw [Int.toNat_natCast]
    exact bitLenAux_wid 64 v (by simpa using hv)
  rw [this]


theorem width_any (A : Option Addr) (c : Nat) (l : List Nat) (w : World) (B : Nat) (hr : Rd w B A (ints .u64 l)) (hl : l.length ≤ 1000000) (h64 : ∀ x ∈ l, x < 18446744073709551616) :
    Calls Tryz.prog 95 #[.slice A l.length c] w fun e w' => e = .returned (.int .i64 (widL l : Int)) ∧ w = w' := by
  have hw := widL_le64
  have HR := Lib.hid hr
  clear hr
  go_enter Tryz.func95, Tryz.ntmps95
  go_wp2
  go_loop [3, 8] (fun m i => ∃ k : Nat, k ≤ l.length ∧ i = .int .i64 k ∧ m = .int .i64 (widL (l.take k) : Int)) (fun _ i => l.length - (intOf i).toNat)
  case atStart => exact ⟨0, Nat.zero_le _, rfl, rfl⟩
  case round =>
    obtain ⟨k, hk, rfl, rfl⟩ := hrel
    by_cases hlt : k < l.length
    · obtain ⟨b, off, rfl, hb, hc⟩ := HR.out.at_ (k := k) (by simpa [ints] using hlt)
      simp only [ints, List.getElem_map] at hc
      have hx := h64 _ (List.getElem_mem hlt)
      have HT := Lib.hid (widL_take l k hlt)
      obtain ⟨x, hxe⟩ : ∃ x, x = l[k] := ⟨_, rfl⟩
      rw [← hxe] at hc hx HT
      clear hxe
      go_wp2_with (go_at_call 116; refine (len64_any x hx _).mono ?_; rintro e w' ⟨rfl, rfl⟩)
      go_round
      case rel => exact ⟨k + 1, by omega, by go_num, by rw [HT.out, int_max]⟩
      case measure => simp [intOf]; omega
    · go_wp2
      go_ret
      exact ⟨ret_int (by rw [List.take_of_length_le (by omega)]), rfl⟩
end Go.Proofs.YtldalkhmbpkjpaaGreatDoor

/- Walks of package bits: low: up to eight bytes as a number, the lowest first. -/

namespace Go.Proofs.YtldalkhmbpkjpaaGreatDoor
open Go.RowKit
set_option linter.unusedVariables false

theorem or_u64 (i : Nat) (x y : Int) (hx0 : 0 ≤ x) (hx : x % 2 ^ i = 0) (hx1 : x < 18446744073709551616) (hy0 : 0 ≤ y) (hy : y < 2 ^ i ∧ y < 18446744073709551616) : bits .or .u64 x y = x + y :=
  bits_join .u64 64 (by decide) (fun n h0 h1 => IntWalk.u64_in n ⟨h0, Int.le_of_lt_add_one h1⟩) i x y hx0 hx (by simpa using hx1) hy0 hy.1 (by simpa using hy.2)

theorem low0 (A : Option Addr) (c : Nat) (w : World) (B : Nat) (hr : Rd w B A (ints .u8 [])) :
    Calls Tryz.prog 131 #[.slice A 0 c] w fun e w' => e = .returned (.int .u64 (cat 8 [] : Nat)) ∧ w = w' := by
  clear hr
  go_enter Tryz.func131, Tryz.ntmps131
  go_wp2
  go_ret
  refine ⟨ret_int ?_, rfl⟩
  rfl

theorem low1 (A : Option Addr) (c : Nat) (x0 : Nat) (w : World) (B : Nat) (h0 : x0 < 256) (hr : Rd w B A (ints .u8 [x0])) :
    Calls Tryz.prog 131 #[.slice A 1 c] w fun e w' => e = .returned (.int .u64 (cat 8 [x0] : Nat)) ∧ w = w' := by
  obtain ⟨b, off, rfl, cc⟩ := hr.all (by simp [ints])
  have c0 := cc 0 _ rfl
  rw [Nat.add_zero] at c0
  clear cc hr
  go_enter Tryz.func131, Tryz.ntmps131
  go_wp2
  go_ret
  refine ⟨ret_int ?_, rfl⟩
  simp only [cat, Nat.reducePow]
  rw [or_u64 64 (0) ((x0 : Int)) (by omega) (by omega) (by omega) (by omega) (by omega)]
  omega

theorem low2 (A : Option Addr) (c : Nat) (x0 x1 : Nat) (w : World) (B : Nat) (h0 : x0 < 256) (h1 : x1 < 256) (hr : Rd w B A (ints .u8 [x0, x1])) :
    Calls Tryz.prog 131 #[.slice A 2 c] w fun e w' => e = .returned (.int .u64 (cat 8 [x0, x1] : Nat)) ∧ w = w' := by
  obtain ⟨b, off, rfl, cc⟩ := hr.all (by simp [ints])
  have c0 := cc 0 _ rfl
  have c1 := cc 1 _ rfl
  rw [Nat.add_zero] at c0
  clear cc hr
  go_enter Tryz.func131, Tryz.ntmps131
  go_wp2
  go_ret
  refine ⟨ret_int ?_, rfl⟩
  simp only [cat, Nat.reducePow]
  rw [or_u64 64 (0) ((x1 : Int) * 256) (by omega) (by omega) (by omega) (by omega) (by omega)]
  rw [or_u64 8 (0 + (x1 : Int) * 256) ((x0 : Int)) (by omega) (by omega) (by omega) (by omega) (by omega)]
  omega

theorem low3 (A : Option Addr) (c : Nat) (x0 x1 x2 : Nat) (w : World) (B : Nat) (h0 : x0 < 256) (h1 : x1 < 256) (h2 : x2 < 256) (hr : Rd w B A (ints .u8 [x0, x1, x2])) :
    Calls Tryz.prog 131 #[.slice A 3 c] w fun e w' => e = .returned (.int .u64 (cat 8 [x0, x1, x2] : Nat)) ∧ w = w' := by
  obtain ⟨b, off, rfl, cc⟩ := hr.all (by simp [ints])
  have c0 := cc 0 _ rfl
  have c1 := cc 1 _ rfl
  have c2 := cc 2 _ rfl
  rw [Nat.add_zero] at c0
  clear cc hr
  go_enter Tryz.func131, Tryz.ntmps131
  go_wp2
  go_ret
  refine ⟨ret_int ?_, rfl⟩
  simp only [cat, Nat.reducePow]
  rw [or_u64 64 (0) ((x2 : Int) * 65536) (by omega) (by omega) (by omega) (by omega) (by omega)]
  rw [or_u64 16 (0 + (x2 : Int) * 65536) ((x1 : Int) * 256) (by omega) (by omega) (by omega) (by omega) (by omega)]
  rw [or_u64 8 (0 + (x2 : Int) * 65536 + (x1 : Int) * 256) ((x0 : Int)) (by omega) (by omega) (by omega) (by omega) (by omega)]
  omega

theorem low4 (A : Option Addr) (c : Nat) (x0 x1 x2 x3 : Nat) (w : World) (B : Nat) (h0 : x0 < 256) (h1 : x1 < 256) (h2 : x2 < 256) (h3 : x3 < 256) (hr : Rd w B A (ints .u8 [x0, x1, x2, x3])) :
    Calls Tryz.prog 131 #[.slice A 4 c] w fun e w' => e = .returned (.int .u64 (cat 8 [x0, x1, x2, x3] : Nat)) ∧ w = w' := by
  obtain ⟨b, off, rfl, cc⟩ := hr.all (by simp [ints])
  have c0 := cc 0 _ rfl
  have c1 := cc 1 _ rfl
  have c2 := cc 2 _ rfl
  have c3 := cc 3 _ rfl
  rw [Nat.add_zero] at c0
  clear cc hr
  go_enter Tryz.func131, Tryz.ntmps131
  go_wp2
  go_ret
  refine ⟨ret_int ?_, rfl⟩
  simp only [cat, Nat.reducePow]
  rw [or_u64 64 (0) ((x3 : Int) * 16777216) (by omega) (by omega) (by omega) (by omega) (by omega)]
  rw [or_u64 24 (0 + (x3 : Int) * 16777216) ((x2 : Int) * 65536) (by omega) (by omega) (by omega) (by omega) (by omega)]
  rw [or_u64 16 (0 + (x3 : Int) * 16777216 + (x2 : Int) * 65536) ((x1 : Int) * 256) (by omega) (by omega) (by omega) (by omega) (by omega)]
  rw [or_u64 8 (0 + (x3 : Int) * 16777216 + (x2 : Int) * 65536 + (x1 : Int) * 256) ((x0 : Int)) (by omega) (by omega) (by omega) (by omega) (by omega)]
  omega

theorem low5 (A : Option Addr) (c : Nat) (x0 x1 x2 x3 x4 : Nat) (w : World) (B : Nat) (h0 : x0 < 256) (h1 : x1 < 256) (h2 : x2 < 256) (h3 : x3 < 256) (h4 : x4 < 256) (hr : Rd w B A (ints .u8 [x0, x1, x2, x3, x4])) :
    Calls Tryz.prog 131 #[.slice A 5 c] w fun e w' => e = .returned (.int .u64 (cat 8 [x0, x1, x2, x3, x4] : Nat)) ∧ w = w' := by
  obtain ⟨b, off, rfl, cc⟩ := hr.all (by simp [ints])
  have c0 := cc 0 _ rfl
  have c1 := cc 1 _ rfl
  have c2 := cc 2 _ rfl
  have c3 := cc 3 _ rfl
  have c4 := cc 4 _ rfl
  rw [Nat.add_zero] at c0
  clear cc hr
  go_enter Tryz.func131, Tryz.ntmps131
  go_wp2
  go_ret
  refine ⟨ret_int ?_, rfl⟩
  simp only [cat, Nat.reducePow]
  rw [or_u64 64 (0) ((x4 : Int) * 4294967296) (by omega) (by omega) (by omega) (by omega) (by omega)]
  rw [or_u64 32 (0 + (x4 : Int) * 4294967296) ((x3 : Int) * 16777216) (by omega) (by omega) (by omega) (by omega) (by omega)]
  rw [or_u64 24 (0 + (x4 : Int) * 4294967296 + (x3 : Int) * 16777216) ((x2 : Int) * 65536) (by omega) (by omega) (by omega) (by omega) (by omega)]
  rw [or_u64 16 (0 + (x4 : Int) * 4294967296 + (x3 : Int) * 16777216 + (x2 : Int) * 65536) ((x1 : Int) * 256) (by omega) (by omega) (by omega) (by omega) (by omega)]
  rw [or_u64 8 (0 + (x4 : Int) * 4294967296 + (x3 : Int) * 16777216 + (x2 : Int) * 65536 + (x1 : Int) * 256) ((x0 : Int)) (by omega) (by omega) (by omega) (by omega) (by omega)]
  omega

theorem low6 (A : Option Addr) (c : Nat) (x0 x1 x2 x3 x4 x5 : Nat) (w : World) (B : Nat) (h0 : x0 < 256) (h1 : x1 < 256) (h2 : x2 < 256) (h3 : x3 < 256) (h4 : x4 < 256) (h5 : x5 < 256) (hr : Rd w B A (ints .u8 [x0, x1, x2, x3, x4, x5])) :
    Calls Tryz.prog 131 #[.slice A 6 c] w fun e w' => e = .returned (.int .u64 (cat 8 [x0, x1, x2, x3, x4, x5] : Nat)) ∧ w = w' := by
  obtain ⟨b, off, rfl, cc⟩ := hr.all (by simp [ints])
  have c0 := cc 0 _ rfl
  have c1 := cc 1 _ rfl
  have c2 := cc 2 _ rfl
  have c3 := cc 3 _ rfl
  have c4 := cc 4 _ rfl
  have c5 := cc 5 _ rfl
  rw [Nat.add_zero] at c0
  clear cc hr
  go_enter Tryz.func131, Tryz.ntmps131
  go_wp2
  go_ret
  refine ⟨ret_int ?_, rfl⟩
  simp only [cat, Nat.reducePow]
  rw [or_u64 64 (0) ((x5 : Int) * 1099511627776) (by omega) (by omega) (by omega) (by omega) (by omega)]
  rw [or_u64 40 (0 + (x5 : Int) * 1099511627776) ((x4 : Int) * 4294967296) (by omega) (by omega) (by omega) (by omega) (by omega)]
  rw [or_u64 32 (0 + (x5 : Int) * 1099511627776 + (x4 : Int) * 4294967296) ((x3 : Int) * 16777216) (by omega) (by omega) (by omega) (by omega) (by omega)]
  rw [or_u64 24 (0 + (x5 : Int) * 1099511627776 + (x4 : Int) * 4294967296 + (x3 : Int) * 16777216) ((x2 : Int) * 65536) (by omega) (by omega) (by omega) (by omega) (by omega)]
  rw [or_u64 16 (0 + (x5 : Int) * 1099511627776 + (x4 : Int) * 4294967296 + (x3 : Int) * 16777216 + (x2 : Int) * 65536) ((x1 : Int) * 256) (by omega) (by omega) (by omega) (by omega) (by omega)]
  rw [or_u64 8 (0 + (x5 : Int) * 1099511627776 + (x4 : Int) * 4294967296 + (x3 : Int) * 16777216 + (x2 : Int) * 65536 + (x1 : Int) * 256) ((x0 : Int)) (by omega) (by omega) (by omega) (by omega) (by omega)]
  omega

theorem blow7 (A : Option Addr) (c : Nat) (x0 x1 x2 x3 x4 x5 x6 : Nat) (w : World) (B : Nat) (h0 : x0 < 256) (h1 : x1 < 256) (h2 : x2 < 256) (h3 : x3 < 256) (h4 : x4 < 256) (h5 : x5 < 256) (h6 : x6 < 256) (hr : Rd w B A (ints .u8 [x0, x1, x2, x3, x4, x5, x6])) :
    Calls Tryz.prog 131 #[.slice A 7 c] w fun e w' => e = .returned (.int .u64 (cat 8 [x0, x1, x2, x3, x4, x5, x6] : Nat)) ∧ w = w' := by
  obtain ⟨b, off, rfl, cc⟩ := hr.all (by simp [ints])
  have c0 := cc 0 _ rfl
  have c1 := cc 1 _ rfl
  have c2 := cc 2 _ rfl
  have c3 := cc 3 _ rfl
  have c4 := cc 4 _ rfl
  have c5 := cc 5 _ rfl
  have c6 := cc 6 _ rfl
  rw [Nat.add_zero] at c0
  clear cc hr
  go_enter Tryz.func131, Tryz.ntmps131
  go_wp2
  go_ret
  refine ⟨ret_int ?_, rfl⟩
  simp only [cat, Nat.reducePow]
  rw [or_u64 64 (0) ((x6 : Int) * 281474976710656) (by omega) (by omega) (by omega) (by omega) (by omega)]
  rw [or_u64 48 (0 + (x6 : Int) * 281474976710656) ((x5 : Int) * 1099511627776) (by omega) (by omega) (by omega) (by omega) (by omega)]
  rw [or_u64 40 (0 + (x6 : Int) * 281474976710656 + (x5 : Int) * 1099511627776) ((x4 : Int) * 4294967296) (by omega) (by omega) (by omega) (by omega) (by omega)]
  rw [or_u64 32 (0 + (x6 : Int) * 281474976710656 + (x5 : Int) * 1099511627776 + (x4 : Int) * 4294967296) ((x3 : Int) * 16777216) (by omega) (by omega) (by omega) (by omega) (by omega)]
  rw [or_u64 24 (0 + (x6 : Int) * 281474976710656 + (x5 : Int) * 1099511627776 + (x4 : Int) * 4294967296 + (x3 : Int) * 16777216) ((x2 : Int) * 65536) (by omega) (by omega) (by omega) (by omega) (by omega)]
  rw [or_u64 16 (0 + (x6 : Int) * 281474976710656 + (x5 : Int) * 1099511627776 + (x4 : Int) * 4294967296 + (x3 : Int) * 16777216 + (x2 : Int) * 65536) ((x1 : Int) * 256) (by omega) (by omega) (by omega) (by omega) (by omega)]
  rw [or_u64 8 (0 + (x6 : Int) * 281474976710656 + (x5 : Int) * 1099511627776 + (x4 : Int) * 4294967296 + (x3 : Int) * 16777216 + (x2 : Int) * 65536 + (x1 : Int) * 256) ((x0 : Int)) (by omega) (by omega) (by omega) (by omega) (by omega)]
  omega

theorem low8 (A : Option Addr) (c : Nat) (x0 x1 x2 x3 x4 x5 x6 x7 : Nat) (w : World) (B : Nat) (h0 : x0 < 256) (h1 : x1 < 256) (h2 : x2 < 256) (h3 : x3 < 256) (h4 : x4 < 256) (h5 : x5 < 256) (h6 : x6 < 256) (h7 : x7 < 256) (hr : Rd w B A (ints .u8 [x0, x1, x2, x3, x4, x5, x6, x7])) :
    Calls Tryz.prog 131 #[.slice A 8 c] w fun e w' => e = .returned (.int .u64 (cat 8 [x0, x1, x2, x3, x4, x5, x6, x7] : Nat)) ∧ w = w' := by
  obtain ⟨b, off, rfl, cc⟩ := hr.all (by simp [ints])
  have c0 := cc 0 _ rfl
  have c1 := cc 1 _ rfl
  have c2 := cc 2 _ rfl
  have c3 := cc 3 _ rfl
  have c4 := cc 4 _ rfl
  have c5 := cc 5 _ rfl
  have c6 := cc 6 _ rfl
  have c7 := cc 7 _ rfl
  rw [Nat.add_zero] at c0
  clear cc hr
  go_enter Tryz.func131, Tryz.ntmps131
  go_wp2
  go_ret
  refine ⟨ret_int ?_, rfl⟩
  simp only [cat, Nat.reducePow]
  rw [or_u64 64 (0) ((x7 : Int) * 72057594037927936) (by omega) (by omega) (by omega) (by omega) (by omega)]
  rw [or_u64 56 (0 + (x7 : Int) * 72057594037927936) ((x6 : Int) * 281474976710656) (by omega) (by omega) (by omega) (by omega) (by omega)]
  rw [or_u64 48 (0 + (x7 : Int) * 72057594037927936 + (x6 : Int) * 281474976710656) ((x5 : Int) * 1099511627776) (by omega) (by omega) (by omega) (by omega) (by omega)]
  rw [or_u64 40 (0 + (x7 : Int) * 72057594037927936 + (x6 : Int) * 281474976710656 + (x5 : Int) * 1099511627776) ((x4 : Int) * 4294967296) (by omega) (by omega) (by omega) (by omega) (by omega)]
  rw [or_u64 32 (0 + (x7 : Int) * 72057594037927936 + (x6 : Int) * 281474976710656 + (x5 : Int) * 1099511627776 + (x4 : Int) * 4294967296) ((x3 : Int) * 16777216) (by omega) (by omega) (by omega) (by omega) (by omega)]
  rw [or_u64 24 (0 + (x7 : Int) * 72057594037927936 + (x6 : Int) * 281474976710656 + (x5 : Int) * 1099511627776 + (x4 : Int) * 4294967296 + (x3 : Int) * 16777216) ((x2 : Int) * 65536) (by omega) (by omega) (by omega) (by omega) (by omega)]
  rw [or_u64 16 (0 + (x7 : Int) * 72057594037927936 + (x6 : Int) * 281474976710656 + (x5 : Int) * 1099511627776 + (x4 : Int) * 4294967296 + (x3 : Int) * 16777216 + (x2 : Int) * 65536) ((x1 : Int) * 256) (by omega) (by omega) (by omega) (by omega) (by omega)]
  rw [or_u64 8 (0 + (x7 : Int) * 72057594037927936 + (x6 : Int) * 281474976710656 + (x5 : Int) * 1099511627776 + (x4 : Int) * 4294967296 + (x3 : Int) * 16777216 + (x2 : Int) * 65536 + (x1 : Int) * 256) ((x0 : Int)) (by omega) (by omega) (by omega) (by omega) (by omega)]
  omega

theorem low_any (A : Option Addr) (c : Nat) (l : List Nat) (w : World) (B : Nat) (hl : l.length ≤ 8) (hr : Rd w B A (ints .u8 l)) (h : ∀ x ∈ l, x < 256) :
    Calls Tryz.prog 131 #[.slice A l.length c] w fun e w' => e = .returned (.int .u64 (cat 8 l : Nat)) ∧ w = w' := by
  match l, hl with
  | [], _ => exact low0 A c  w B hr
  | [x0], _ => exact low1 A c x0 w B (h x0 (by simp)) hr
  | [x0, x1], _ => exact low2 A c x0 x1 w B (h x0 (by simp)) (h x1 (by simp)) hr
  | [x0, x1, x2], _ => exact low3 A c x0 x1 x2 w B (h x0 (by simp)) (h x1 (by simp)) (h x2 (by simp)) hr
  | [x0, x1, x2, x3], _ => exact low4 A c x0 x1 x2 x3 w B (h x0 (by simp)) (h x1 (by simp)) (h x2 (by simp)) (h x3 (by simp)) hr
  | [x0, x1, x2, x3, x4], _ => exact low5 A c x0 x1 x2 x3 x4 w B (h x0 (by simp)) (h x1 (by simp)) (h x2 (by simp)) (h x3 (by simp)) (h x4 (by simp)) hr
  | [x0, x1, x2, x3, x4, x5], _ => exact low6 A c x0 x1 x2 x3 x4 x5 w B (h x0 (by simp)) (h x1 (by simp)) (h x2 (by simp)) (h x3 (by simp)) (h x4 (by simp)) (h x5 (by simp)) hr
  | [x0, x1, x2, x3, x4, x5, x6], _ => exact blow7 A c x0 x1 x2 x3 x4 x5 x6 w B (h x0 (by simp)) (h x1 (by simp)) (h x2 (by simp)) (h x3 (by simp)) (h x4 (by simp)) (h x5 (by simp)) (h x6 (by simp)) hr
  | [x0, x1, x2, x3, x4, x5, x6, x7], _ => exact low8 A c x0 x1 x2 x3 x4 x5 x6 x7 w B (h x0 (by simp)) (h x1 (by simp)) (h x2 (by simp)) (h x3 (by simp)) (h x4 (by simp)) (h x5 (by simp)) (h x6 (by simp)) (h x7 (by simp)) hr
  | _ :: _ :: _ :: _ :: _ :: _ :: _ :: _ :: _ :: _, hl => simp at hl
end Go.Proofs.YtldalkhmbpkjpaaGreatDoor

/- Walks of package bits: pick. -/

namespace Go.Proofs.YtldalkhmbpkjpaaGreatDoor
open Go.RowKit
set_option linter.unusedVariables false

theorem Rd.slice {w : World} {B : Nat} {A : Option Addr} {xs : List Value} (h : Rd w B A xs) (i j : Nat) (hij : i ≤ j) (hj : j ≤ xs.length) (b off : Nat) (hA : A = some ⟨b, off, none⟩) :
    Rd w B (some ⟨b, off + i, none⟩) ((xs.drop i).take (j - i)) := by
  rcases h with rfl | ⟨b', off', hA', hb, hc⟩
  · left; simp
  · rw [hA] at hA'
    injection hA' with e; injection e with e1 e2 _; subst e1 e2
    refine .inr ⟨b, off + i, rfl, hb, fun k v hv => ?_⟩
    rw [List.getElem?_take] at hv
    split at hv
    · rw [List.getElem?_drop] at hv
      rw [Nat.add_assoc]
      exact hc _ v hv
    · cases hv

theorem low_at (A : Option Addr) (n c : Nat) (l : List Nat) (w : World) (B : Nat) (hn : n = l.length) (hl : l.length ≤ 8) (hr : Rd w B A (ints .u8 l)) (h : ∀ x ∈ l, x < 256) :
    Calls Tryz.prog 131 #[.slice A n c] w fun e w' => e = .returned (.int .u64 (cat 8 l : Nat)) ∧ w = w' := by
  subst hn; exact low_any A c l w B hl hr h

theorem ints_cut (k : IntKind) (l : List Nat) (i m : Nat) : ((ints k l).drop i).take m = ints k ((l.drop i).take m) := by
  simp [ints, List.map_drop, List.map_take]

theorem cat_lt_of (l : List Nat) (h : ∀ x ∈ l, x < 256) (hl : l.length ≤ 8) : cat 8 l < 18446744073709551616 := by
  have h1 := cat_lt 8 l h
  have h2 : 2 ^ (8 * l.length) ≤ 2 ^ 64 := Nat.pow_le_pow_right (by omega) (by omega)
  omega

theorem and_ones (x k : Nat) (hx : x < 18446744073709551616) (hk : k ≤ 64) : bits .and .u64 (x : Int) (18446744073709551615 / 2 ^ (64 - k)) = ((x % 2 ^ k : Nat) : Int) := by
  have e : (18446744073709551615 / 2 ^ (64 - k) : Int) = ((2 ^ k - 1 : Nat) : Int) := by
    rw [← ones_shift k hk]
    simp
  have hp : 2 ^ k ≤ 2 ^ 64 := Nat.pow_le_pow_right (by omega) hk
  rw [e, u64_and_nat _ _ hx (by omega), Nat.and_two_pow_sub_one_eq_mod]

theorem or_lt64 (a b : Nat) (ha : a < 18446744073709551616) (hb : b < 18446744073709551616) : a ||| b < 18446744073709551616 := Nat.or_lt_two_pow (n := 64) ha hb

theorem pickA_walk (b off c : Nat) (l : List Nat) (at_ k : Nat) (w : World) (B : Nat) (hr : Rd w B (some ⟨b, off, none⟩) (ints .u8 l)) (h256 : ∀ x ∈ l, x < 256) (hc : l.length ≤ c)
    (hk : k ≤ 64) (hlen : l.length ≤ 1000000) (hlt : at_ / 8 + 8 ≤ l.length) (h9 : at_ % 8 + k ≤ 64) :
    Calls Tryz.prog 122 #[.slice (some ⟨b, off, none⟩) l.length c, .int .i64 at_, .int .i64 k] w fun e w' => e = .returned (.int .u64 (cat 8 l / 2 ^ at_ % 2 ^ k : Nat)) ∧ w = w' := by
  have hmin : min ((at_ : Int) / 8 + 8) (l.length : Int) = (at_ : Int) / 8 + 8 := by omega
  have hr' := hr.slice (at_ / 8) (at_ / 8 + 8) (by omega) (by simpa [ints] using hlt) b off rfl
  rw [show at_ / 8 + 8 - at_ / 8 = 8 by omega, ints_cut] at hr'
  have hs : ∀ x ∈ (l.drop (at_ / 8)).take 8, x < 256 := fun x hx => h256 x (List.mem_of_mem_drop (List.mem_of_mem_take hx))
  have hsl : ((l.drop (at_ / 8)).take 8).length = 8 := by simp; omega
  have hx := cat_lt_of _ hs (by omega)
  have HX := Lib.hid (cat_cut 8 (at_ / 8) 8 l h256 (by omega))
  obtain ⟨y, hy⟩ : ∃ y, y = cat 8 ((l.drop (at_ / 8)).take 8) := ⟨_, rfl⟩
  have HL := Lib.hid (fun c => low_at (some ⟨b, off + at_ / 8, none⟩) 8 c _ w B hsl.symm (by omega) hr' hs)
  rw [← hy] at hx HX HL
  clear hy hr hr' hs hsl h256
  go_enter Tryz.func122, Tryz.ntmps122
  go_wp2_with (go_at_call 131; refine (HL.out _).mono ?_; rintro e w' ⟨rfl, rfl⟩)
  go_ret
  refine ⟨ret_int ?_, rfl⟩
  show bits .and .u64 ((y : Int) / 2 ^ (at_ % 8)) (18446744073709551615 / 2 ^ (64 - k)) = _
  rw [cast_shr, and_ones _ k (shr_lt _ _ hx) hk, HX.out, pickA _ _ _ _ h9, show 8 * (at_ / 8) + at_ % 8 = at_ by omega]

theorem pickS_walk (b off c : Nat) (l : List Nat) (at_ k : Nat) (w : World) (B : Nat) (hr : Rd w B (some ⟨b, off, none⟩) (ints .u8 l)) (h256 : ∀ x ∈ l, x < 256) (hc : l.length ≤ c)
    (hk : k ≤ 64) (hlen : l.length ≤ 1000000) (hlt : l.length < at_ / 8 + 8) (hq : at_ / 8 < l.length) (h9 : at_ % 8 + k ≤ 64) :
    Calls Tryz.prog 122 #[.slice (some ⟨b, off, none⟩) l.length c, .int .i64 at_, .int .i64 k] w fun e w' => e = .returned (.int .u64 (cat 8 l / 2 ^ at_ % 2 ^ k : Nat)) ∧ w = w' := by
  have hmin : min ((at_ : Int) / 8 + 8) (l.length : Int) = (l.length : Int) := by omega
  have hr' := hr.slice (at_ / 8) l.length (by omega) (by simp [ints]) b off rfl
  rw [ints_cut] at hr'
  have e1 : (l.drop (at_ / 8)).take (l.length - at_ / 8) = (l.drop (at_ / 8)).take 8 := by
    rw [List.take_of_length_le (by simp), List.take_of_length_le (by simp; omega)]
  rw [e1] at hr'
  have hs : ∀ x ∈ (l.drop (at_ / 8)).take 8, x < 256 := fun x hx => h256 x (List.mem_of_mem_drop (List.mem_of_mem_take hx))
  have hsl : ((l.drop (at_ / 8)).take 8).length = l.length - at_ / 8 := by simp; omega
  have hx := cat_lt_of _ hs (by omega)
  have HX := Lib.hid (cat_cut 8 (at_ / 8) 8 l h256 (by omega))
  obtain ⟨y, hy⟩ : ∃ y, y = cat 8 ((l.drop (at_ / 8)).take 8) := ⟨_, rfl⟩
  have hne : ¬ at_ / 8 = c := by omega
  have HL := Lib.hid (fun c => low_at (some ⟨b, off + at_ / 8, none⟩) (l.length - at_ / 8) c _ w B hsl.symm (by omega) hr' hs)
  rw [← hy] at hx HX HL
  clear hy hr hr' hs hsl h256 e1
  go_enter Tryz.func122, Tryz.ntmps122
  go_wp2_with (go_at_call 131; refine (HL.out _).mono ?_; rintro e w' ⟨rfl, rfl⟩)
  go_ret
  refine ⟨ret_int ?_, rfl⟩
  show bits .and .u64 ((y : Int) / 2 ^ (at_ % 8)) (18446744073709551615 / 2 ^ (64 - k)) = _
  rw [cast_shr, and_ones _ k (shr_lt _ _ hx) hk, HX.out, pickA _ _ _ _ h9, show 8 * (at_ / 8) + at_ % 8 = at_ by omega]

theorem pick0_walk (A : Option Addr) (c : Nat) (w : World) :
    Calls Tryz.prog 122 #[.slice A 0 c, .int .i64 0, .int .i64 0] w fun e w' => e = .returned (.int .u64 0) ∧ w = w' := by
  have HL := Lib.hid (fun (A : Option Addr) c => low_at A 0 c [] w 0 rfl (by simp) (.inl rfl) (by simp))
  rcases A with _ | A
  · go_enter Tryz.func122, Tryz.ntmps122
    go_wp2_with (go_at_call 131; refine (HL.out _ _).mono ?_; rintro e w' ⟨rfl, rfl⟩)
    all_goals go_ret
    all_goals exact ⟨rfl, rfl⟩
  · go_enter Tryz.func122, Tryz.ntmps122
    go_wp2_with (go_at_call 131; refine (HL.out _ _).mono ?_; rintro e w' ⟨rfl, rfl⟩)
    all_goals go_ret
    all_goals exact ⟨rfl, rfl⟩

theorem pickB_walk (b off c : Nat) (l : List Nat) (at_ k : Nat) (w : World) (B : Nat) (hr : Rd w B (some ⟨b, off, none⟩) (ints .u8 l)) (h256 : ∀ x ∈ l, x < 256) (hc : l.length ≤ c)
    (hk : k ≤ 64) (hlen : l.length ≤ 1000000) (hlt : at_ / 8 + 8 < l.length) (h9 : 64 < at_ % 8 + k) :
    Calls Tryz.prog 122 #[.slice (some ⟨b, off, none⟩) l.length c, .int .i64 at_, .int .i64 k] w fun e w' => e = .returned (.int .u64 (cat 8 l / 2 ^ at_ % 2 ^ k : Nat)) ∧ w = w' := by
  have hmin : min ((at_ : Int) / 8 + 8) (l.length : Int) = (at_ : Int) / 8 + 8 := by omega
  have hr' := hr.slice (at_ / 8) (at_ / 8 + 8) (by omega) (by simp [ints]; omega) b off rfl
  rw [show at_ / 8 + 8 - at_ / 8 = 8 by omega, ints_cut] at hr'
  have hs : ∀ x ∈ (l.drop (at_ / 8)).take 8, x < 256 := fun x hx => h256 x (List.mem_of_mem_drop (List.mem_of_mem_take hx))
  have hsl : ((l.drop (at_ / 8)).take 8).length = 8 := by simp; omega
  have hx := cat_lt_of _ hs (by omega)
  have HX := Lib.hid (cat_cut 8 (at_ / 8) 8 l h256 (by omega))
  obtain ⟨b', off', e', hb', hcell⟩ := hr.at_ (k := at_ / 8 + 8) (by simpa [ints] using hlt)
  injection e' with e'; injection e' with e1 e2 _; subst e1 e2
  simp only [ints, List.getElem_map] at hcell
  have hz := h256 _ (List.getElem_mem hlt)
  have HZ := Lib.hid (cat_get 8 l h256 (at_ / 8 + 8) hlt)
  obtain ⟨z, hze⟩ : ∃ z, z = l[at_ / 8 + 8] := ⟨_, rfl⟩
  rw [← hze] at hcell hz HZ
  clear hze
  obtain ⟨y, hy⟩ : ∃ y, y = cat 8 ((l.drop (at_ / 8)).take 8) := ⟨_, rfl⟩
  have HL := Lib.hid (fun c => low_at (some ⟨b, off + at_ / 8, none⟩) 8 c _ w B hsl.symm (by omega) hr' hs)
  rw [← hy] at hx HX HL
  clear hy hr hr' hs hsl h256
  go_enter Tryz.func122, Tryz.ntmps122
  go_wp2_with (go_at_call 131; refine (HL.out _).mono ?_; rintro e w' ⟨rfl, rfl⟩)
  go_ret
  refine ⟨ret_int ?_, rfl⟩
  show bits .and .u64 (bits .or .u64 ((y : Int) / 2 ^ (at_ % 8)) (IntKind.u64.wrap ((z : Int) * 2 ^ (64 - at_ % 8)))) (18446744073709551615 / 2 ^ (64 - k)) = _
  have e1 : IntKind.u64.wrap ((z : Int) * 2 ^ (64 - at_ % 8)) = ((z * 2 ^ (64 - at_ % 8) % 2 ^ 64 : Nat) : Int) := by
    rw [IntKind.wrap_u64]; simp
  have h1 := shr_lt y (at_ % 8) hx
  have h2 : z * 2 ^ (64 - at_ % 8) % 2 ^ 64 < 18446744073709551616 := Nat.mod_lt _ (by decide)
  rw [cast_shr, e1, u64_or_nat _ _ h1 h2, and_ones _ k (or_lt64 _ _ h1 h2) hk, HX.out, HZ.out, pickB _ _ _ _ h9 (by omega) hk, show 8 * (at_ / 8) + at_ % 8 = at_ by omega]

theorem pick_any (A : Option Addr) (c : Nat) (l : List Nat) (at_ k : Nat) (w : World) (B : Nat) (hr : Rd w B A (ints .u8 l)) (h256 : ∀ x ∈ l, x < 256) (hc : l.length ≤ c)
    (hk : k ≤ 64) (hlen : l.length ≤ 1000000) (hend : at_ + k ≤ 8 * l.length) (h0 : k = 0 → l = [] ∧ at_ = 0) :
    Calls Tryz.prog 122 #[.slice A l.length c, .int .i64 at_, .int .i64 k] w fun e w' => e = .returned (.int .u64 (cat 8 l / 2 ^ at_ % 2 ^ k : Nat)) ∧ w = w' := by
  by_cases hk0 : k = 0
  · obtain ⟨rfl, rfl⟩ := h0 hk0
    subst hk0
    exact pick0_walk A c w
  · obtain ⟨b, off, rfl, _, _⟩ := hr.at_ (k := at_ / 8) (by rw [ints_length]; omega)
    by_cases h8 : at_ / 8 + 8 ≤ l.length
    · by_cases h9 : at_ % 8 + k ≤ 64
      · exact pickA_walk b off c l at_ k w B hr h256 hc hk hlen h8 h9
      · exact pickB_walk b off c l at_ k w B hr h256 hc hk hlen (by omega) (by omega)
    · exact pickS_walk b off c l at_ k w B hr h256 hc hk hlen (by omega) (by omega) (by omega)
end Go.Proofs.YtldalkhmbpkjpaaGreatDoor

/- Walks of package bits: lay. -/

namespace Go.Proofs.YtldalkhmbpkjpaaGreatDoor
open Go.RowKit
set_option linter.unusedVariables false

theorem lay_zero (v : Value) (at_ : Nat) (w : World) : Calls Tryz.prog 114 #[v, .int .i64 at_, .int .u64 0] w fun e w' => e = .returned (.tuple #[]) ∧ w = w' := by
  go_enter Tryz.func114, Tryz.ntmps114
  go_wp2
  refine bodyPost_ret (results_none rfl _ _ _) rfl ?_
  exact ⟨rfl, rfl⟩

theorem lay_walk (g n at_ v M T : Nat) (w : World) (hr : Row w g 5 .u8 (chop 8 M n)) (hv : v < 18446744073709551616) (hv0 : 0 < v) (hM : M < 2 ^ at_) (hat : at_ ≤ 8000000) (hn : n ≤ 1000000) (hT : M + v * 2 ^ at_ = T) (hend : T < 2 ^ (8 * n)) (hq : at_ / 8 < n) :
    Calls Tryz.prog 114 #[.slice (some ⟨g, 0, none⟩) n n, .int .i64 at_, .int .u64 v] w fun e w' => e = .returned (.tuple #[]) ∧ Row w' g 5 .u8 (chop 8 T n) ∧ w.grownBy w' (some g) := by
  have hcell := hr.cell (at_ / 8) (by rw [chop_length]; exact hq)
  have hx := chop_lt 8 n M _ (List.getElem_mem (by rw [chop_length]; exact hq))
  have hfr := hr.frozen (at_ / 8)
  have HX := Lib.hid (chop_get 8 n M (at_ / 8) (by rw [chop_length]; exact hq))
  obtain ⟨x, hxe⟩ : ∃ x, x = (chop 8 M n)[at_ / 8]'(by rw [chop_length]; exact hq) := ⟨_, rfl⟩
  rw [← hxe] at hcell hx HX
  clear hxe
  have HR := Lib.hid hr
  clear hr
  have hat8 : 8 * (at_ / 8) + at_ % 8 = at_ := by omega
  have HO := Lib.hid (layOr M v (at_ / 8) (at_ % 8) (by omega) (by rw [hat8]; exact hM))
  have HS := Lib.hid (laySet M v (at_ / 8) (at_ % 8) n (by omega) (by rw [hat8]; exact hM))
  have HD := Lib.hid (layRest M v (at_ / 8) (at_ % 8) (by omega) (by rw [hat8]; exact hM))
  rw [hat8, hT] at HO HS HD
  clear hT hat8
  have hvne : ((v : Int) == 0) = false := by simp; omega
  go_enter Tryz.func114, Tryz.ntmps114
  go_wp2
  go_region
  go_wp2
  go_loopw [2, 6] (fun u i wr => ∃ k : Nat, i = .int .i64 k ∧ at_ / 8 < k ∧ u = .int .u64 (T / 2 ^ (8 * k) : Nat) ∧ T / 2 ^ (8 * k) < 18446744073709551616 ∧ Row wr g 5 .u8 (chop 8 (T % 2 ^ (8 * k)) n) ∧ w.grownBy wr (some g)) (fun u _ _ => (intOf u).toNat)
  case atStart =>
    refine ⟨at_ / 8 + 1, by go_num, by omega, ?_, ?_, ?_, ?_⟩
    · rw [← HD.out, cast_shr]
    · rw [← HD.out]; exact shr_lt _ _ hv
    · refine Row.drew (HR.out.set' _ (T / 2 ^ (8 * (at_ / 8)) % 2 ^ 8) _ ?_ _ HS.out)
      rw [← HO.out, ← HX.out, IntKind.wrap_u64]
      have e : ((v : Int) * 2 ^ (at_ % 8)) % 18446744073709551616 % 256 = ((v * 2 ^ (at_ % 8) % 2 ^ 64 % 2 ^ 8 : Nat) : Int) := by simp
      rw [e, u8_or_nat _ _ hx (Nat.mod_lt _ (by decide))]
    · exact only_drew (only_setCell (World.grownBy.refl _ _) (.inl rfl) _)
  case round =>
    obtain ⟨k, rfl, hk, rfl, hlt, hrow, hgr⟩ := hrel
    obtain ⟨y, hy⟩ : ∃ y, y = T / 2 ^ (8 * k) := ⟨_, rfl⟩
    rw [← hy] at hlt ⊢
    by_cases hz : y = 0
    · have hfin : chop 8 (T % 2 ^ (8 * k)) n = chop 8 T n := by
        rw [Nat.mod_eq_of_lt]
        rw [hz] at hy
        exact (Nat.div_eq_zero_iff_lt (Nat.two_pow_pos _)).1 hy.symm
      rw [hfin] at hrow
      have HRow := Lib.hid hrow
      have HGr := Lib.hid hgr
      subst hz
      clear hrow hgr hfin hy
      go_wp2
      refine bodyPost_end (results_none rfl _ _ _) rfl ?_
      exact ⟨rfl, HRow.out, HGr.out⟩
    · have hkn : k < n := by
        rcases Nat.lt_or_ge k n with h | h
        · exact h
        · have h1 : T / 2 ^ (8 * k) = 0 := Nat.div_eq_of_lt (Nat.lt_of_lt_of_le hend (Nat.pow_le_pow_right (by omega) (by omega)))
          omega
      have hc := hrow.cell k (by rw [chop_length]; exact hkn)
      have hf := hrow.frozen k
      have hne : ((y : Int) != 0) = true := by simp [hz]
      have HN := Lib.hid (hrow.set' k (y % 2 ^ 8) ((y : Int) % 256) (by simp) (chop 8 (T % 2 ^ (8 * (k + 1))) n) (by rw [hy]; exact layNext T k n))
      have HGr := Lib.hid (only_setCell hgr (p := ⟨g, k, none⟩) (.inl rfl) (.int .u8 ((y : Int) % 256)))
      have HY := Lib.hid (show y / 256 = T / 2 ^ (8 * (k + 1)) by rw [hy]; exact div_next T k)
      clear hrow hgr hy
      go_wp2
      go_roundw
      case rel => exact ⟨k + 1, by go_num, by omega, by rw [← HY.out]; simp, by rw [← HY.out]; omega, HN.out, HGr.out⟩
      case measure => simp [intOf]; omega

theorem lay_any (g n : Nat) (z : Int) (at_ v M T : Nat) (w : World) (hr : Row w g 5 .u8 (chop 8 M n)) (hz : z = (at_ : Int)) (hv : v < 18446744073709551616) (hM : M < 2 ^ at_) (hat : at_ ≤ 8000000) (hn : n ≤ 1000000)
    (hT : M + v * 2 ^ at_ = T) (hend : T < 2 ^ (8 * n)) :
    Calls Tryz.prog 114 #[.slice (some ⟨g, 0, none⟩) n n, .int .i64 z, .int .u64 v] w fun e w' => e = .returned (.tuple #[]) ∧ Row w' g 5 .u8 (chop 8 T n) ∧ w.grownBy w' (some g) := by
  subst hz
  rcases Nat.eq_zero_or_pos v with rfl | h0
  · rw [Nat.zero_mul, Nat.add_zero] at hT
    subst hT
    exact (lay_zero _ at_ w).mono fun e w' ⟨he, hw⟩ => ⟨he, hw ▸ hr, hw ▸ World.grownBy.refl _ _⟩
  · refine lay_walk g n at_ v M T w hr hv h0 hM hat hn hT hend ?_
    have h1 : 2 ^ at_ ≤ v * 2 ^ at_ := Nat.le_mul_of_pos_left _ h0
    have h2 : 2 ^ at_ < 2 ^ (8 * n) := by omega
    have h3 := (Nat.pow_lt_pow_iff_right (by decide : 1 < 2)).1 h2
    omega
end Go.Proofs.YtldalkhmbpkjpaaGreatDoor

/- Walks of package bits: Put. -/

namespace Go.Proofs.YtldalkhmbpkjpaaGreatDoor
open Go.RowKit
set_option linter.unusedVariables false

theorem putNo (A : Option Addr) (c : Nat) (l : List Nat) (k : Int) (w : World) (B : Nat) (hr : Rd w B A (ints .u64 l)) (hl : l.length ≤ 1000) (h64 : ∀ x ∈ l, x < 18446744073709551616)
    (h : k < 0 ∨ 64 < k ∨ k < widL l) :
    Calls Tryz.prog 91 #[.slice A l.length c, .int .i64 k] w fun e w' => e = .returned (.tuple #[.slice none 0 0, .bool false]) ∧ w = w' := by
  have HW := Lib.hid (width_any A c l w B hr (by omega) h64)
  clear hr
  rcases Int.lt_or_le k 0 with h1 | h1
  · go_enter Tryz.func91, Tryz.ntmps91
    go_wp2_with fail
    go_ret2
    exact ⟨rfl, rfl⟩
  · rcases Int.lt_or_le 64 k with h2 | h2
    · go_enter Tryz.func91, Tryz.ntmps91
      go_wp2_with fail
      go_ret2
      exact ⟨rfl, rfl⟩
    · have h3 : k < widL l := by omega
      clear h
      go_enter Tryz.func91, Tryz.ntmps91
      go_wp2_with (go_at_call 95; refine HW.out.mono ?_; rintro e w' ⟨rfl, rfl⟩)
      go_ret2
      exact ⟨rfl, rfl⟩

theorem putYes (A : Option Addr) (c : Nat) (l : List Nat) (k : Nat) (w : World) (hr : Rd w w.heap.size A (ints .u64 l)) (hl : l.length ≤ 1000) (h64 : ∀ x ∈ l, x < 18446744073709551616)
    (hk : k ≤ 64) (hw : widL l ≤ k) :
    Calls Tryz.prog 91 #[.slice A l.length c, .int .i64 k] w fun e w' => e = .returned (.tuple #[.slice (some ⟨w.heap.size, 0, none⟩) ((l.length * k + 7) / 8) ((l.length * k + 7) / 8), .bool true]) ∧
      Row w' w.heap.size 5 .u8 (chop 8 (cat k l) ((l.length * k + 7) / 8)) ∧ Below w.heap.size w w' := by
  have HW := Lib.hid (width_any A c l w _ hr (by omega) h64)
  have hlk : l.length * k ≤ 64000 := Nat.le_trans (Nat.mul_le_mul hl hk) (by decide)
  have HS := Lib.hid (size_any l.length k (by omega) w)
  have HR := Lib.hid hr
  clear hr
  have hn : (l.length * k + 7) / 8 ≤ 8001 := by omega
  obtain ⟨n, hne⟩ : ∃ n, n = (l.length * k + 7) / 8 := ⟨_, rfl⟩
  rw [← hne] at HS hn ⊢
  have HN := Lib.hid hne
  clear hne
  have hmk := fun W => run_make_row' (P := Tryz.prog) 22 5 (.int .u8 0) 1 Tryz.underlying22 info_u8 rfl .i64 .i64 n (by omega) (by omega) W
  go_enter Tryz.func91, Tryz.ntmps91
  go_wp2_with (first | (go_at_call 95; refine HW.out.mono ?_; rintro e w' ⟨rfl, rfl⟩) | (go_at_call 113; refine HS.out.mono ?_; rintro e w' ⟨rfl, rfl⟩))
  have hxl : ∀ x ∈ l, x < 2 ^ k := (widL_le l k).1 hw
  have HXL := Lib.hid hxl
  clear hxl hmk HW HS
  go_loopw [28] (fun i wr => ∃ j : Nat, j ≤ l.length ∧ i = .int .i64 j ∧ Row wr w.heap.size 5 .u8 (chop 8 (cat k (l.take j)) n) ∧ Below w.heap.size w wr) (fun i _ => l.length - (intOf i).toNat)
  case atStart =>
    refine ⟨0, Nat.zero_le _, rfl, ?_, (Below.refl _ _).alloc (Nat.le_refl _) _⟩
    rw [List.take_zero, show cat k [] = 0 from rfl, chop_zero]
    exact Row.made w _ .u8 n
  case round =>
    obtain ⟨j, hj, rfl, hrow, hbel⟩ := hrel
    by_cases hlt : j < l.length
    · obtain ⟨b, off, rfl, hb, hc⟩ := (HR.out.below hbel).at_ (k := j) (by rw [ints_length]; exact hlt)
      simp only [ints, List.getElem_map] at hc
      have hx := h64 _ (List.getElem_mem hlt)
      have HC := Lib.hid (cat_snoc k j l hlt)
      have hjk : j * k ≤ 64000 := Nat.le_trans (Nat.mul_le_mul_right _ hj) hlk
      have h1 : (j : Int) * (k : Int) ≤ 64000 := by have := Int.ofNat_le.2 hjk; simpa using this
      have h0 : 0 ≤ (j : Int) * (k : Int) := Int.mul_nonneg (by omega) (by omega)
      obtain ⟨x, hxe⟩ : ∃ x, x = l[j] := ⟨_, rfl⟩
      rw [← hxe] at hc hx HC
      clear hxe
      have HL := Lib.hid (lay_any w.heap.size n ((j : Int) * (k : Int)) (j * k) x (cat k (l.take j)) (cat k (l.take (j + 1))) wr hrow (by simp) hx (cat_take_lt k j l HXL.out hj) (by omega) (by omega) HC.out.symm
        (cat_take_end k (j + 1) n l HXL.out hlt HN.out))
      have HB := Lib.hid hbel
      have HBS := Lib.hid hbel.size
      clear hrow hbel
      go_wp2_with (go_at_call 114; refine HL.out.mono ?_; rintro e w2 ⟨rfl, hrow2, hg2⟩)
      have HRow := Lib.hid hrow2
      have HG := Lib.hid hg2
      clear hrow2 hg2
      go_wp2
      go_roundw
      case rel => exact ⟨j + 1, hlt, by go_num, HRow.out, HB.out.grown HG.out HBS.out (fun q hq => by injection hq with hq; omega)⟩
      case measure => simp [intOf]; omega
    · have hfin : l.take j = l := List.take_of_length_le (by omega)
      rw [hfin] at hrow
      have HRow := Lib.hid hrow
      have HB := Lib.hid hbel
      clear hrow hbel hfin
      go_wp2
      go_ret2
      exact ⟨rfl, HRow.out, HB.out⟩
end Go.Proofs.YtldalkhmbpkjpaaGreatDoor

/- Walks of package bits: Take. -/

namespace Go.Proofs.YtldalkhmbpkjpaaGreatDoor
open Go.RowKit
set_option linter.unusedVariables false

theorem take_arg (A : Option Addr) (c : Nat) (l : List Nat) (n k : Int) (w : World) (h : n < 0 ∨ 1000 < n ∨ k < 0 ∨ 64 < k) :
    Calls Tryz.prog 104 #[.slice A l.length c, .int .i64 n, .int .i64 k] w fun e w' => e = .returned (.tuple #[.slice none 0 0, .bool false]) ∧ w = w' := by
  rcases Int.lt_or_le n 0 with h1 | h1
  · go_enter Tryz.func104, Tryz.ntmps104
    go_wp2_with fail
    go_ret2
    exact ⟨rfl, rfl⟩
  · rcases Int.lt_or_le 1000 n with h2 | h2
    · go_enter Tryz.func104, Tryz.ntmps104
      go_wp2_with fail
      go_ret2
      exact ⟨rfl, rfl⟩
    · rcases Int.lt_or_le k 0 with h3 | h3
      · go_enter Tryz.func104, Tryz.ntmps104
        go_wp2_with fail
        go_ret2
        exact ⟨rfl, rfl⟩
      · have h4 : 64 < k := by omega
        clear h
        go_enter Tryz.func104, Tryz.ntmps104
        go_wp2_with fail
        go_ret2
        exact ⟨rfl, rfl⟩

theorem take_len (A : Option Addr) (c : Nat) (l : List Nat) (n k : Nat) (w : World) (hn : n ≤ 1000) (hk : k ≤ 64) (hl : l.length ≤ 1000000) (h : l.length ≠ (n * k + 7) / 8) :
    Calls Tryz.prog 104 #[.slice A l.length c, .int .i64 n, .int .i64 k] w fun e w' => e = .returned (.tuple #[.slice none 0 0, .bool false]) ∧ w = w' := by
  have hnk : n * k ≤ 64000 := Nat.le_trans (Nat.mul_le_mul hn hk) (by decide)
  have HS := Lib.hid (size_any n k (by omega) w)
  obtain ⟨m, hm⟩ : ∃ m, m = (n * k + 7) / 8 := ⟨_, rfl⟩
  rw [← hm] at HS h
  clear hm
  have hne : ((l.length : Int) != (m : Int)) = true := by rw [bne_iff_ne]; omega
  go_enter Tryz.func104, Tryz.ntmps104
  go_wp2_with (go_at_call 113; refine HS.out.mono ?_; rintro e w' ⟨rfl, rfl⟩)
  go_ret2
  exact ⟨rfl, rfl⟩

theorem pick_at (A : Option Addr) (c : Nat) (l : List Nat) (z : Int) (at_ k : Nat) (w : World) (B : Nat) (hz : z = (at_ : Int)) (hr : Rd w B A (ints .u8 l)) (h256 : ∀ x ∈ l, x < 256) (hc : l.length ≤ c)
    (hk : k ≤ 64) (hlen : l.length ≤ 1000000) (hend : at_ + k ≤ 8 * l.length) (h0 : k = 0 → l = [] ∧ at_ = 0) :
    Calls Tryz.prog 122 #[.slice A l.length c, .int .i64 z, .int .i64 k] w fun e w' => e = .returned (.int .u64 (cat 8 l / 2 ^ at_ % 2 ^ k : Nat)) ∧ w = w' := by
  subst hz; exact pick_any A c l at_ k w B hr h256 hc hk hlen hend h0
theorem ended_at (A : Option Addr) (c : Nat) (l : List Nat) (z : Int) (at_ : Nat) (w : World) (B : Nat) (hz : z = (at_ : Int)) (hr : Rd w B A (ints .u8 l)) (ha : at_ ≤ 8000000) (hl : l.length = (at_ + 7) / 8) (h256 : ∀ x ∈ l, x < 256) :
    Calls Tryz.prog 121 #[.slice A l.length c, .int .i64 z] w fun e w' => e = .returned (.bool (decide (cat 8 l < 2 ^ at_))) ∧ w = w' := by
  subst hz; rw [← ended_iff l at_ h256 hl]; exact ended_any A c l at_ w B hr ha (by omega) h256

theorem take_end (A : Option Addr) (c : Nat) (l : List Nat) (n k : Nat) (w : World) (B : Nat) (hr : Rd w B A (ints .u8 l)) (h256 : ∀ x ∈ l, x < 256) (hn : n ≤ 1000) (hk : k ≤ 64) (hl : l.length = (n * k + 7) / 8) (hend : ¬ cat 8 l < 2 ^ (n * k)) :
    Calls Tryz.prog 104 #[.slice A l.length c, .int .i64 n, .int .i64 k] w fun e w' => e = .returned (.tuple #[.slice none 0 0, .bool false]) ∧ w = w' := by
  have hnk : n * k ≤ 64000 := Nat.le_trans (Nat.mul_le_mul hn hk) (by decide)
  have h1 : (n : Int) * (k : Int) ≤ 64000 := by have := Int.ofNat_le.2 hnk; simpa using this
  have h0 : 0 ≤ (n : Int) * (k : Int) := Int.mul_nonneg (by omega) (by omega)
  have HS := Lib.hid (size_any n k (by omega) w)
  have HE := Lib.hid (ended_at A c l ((n : Int) * (k : Int)) (n * k) w B (by simp) hr (by omega) hl h256)
  rw [← hl] at HS
  rw [decide_eq_false hend] at HE
  have hne : ((l.length : Int) != (l.length : Int)) = false := by simp
  clear hr hl hend h256
  go_enter Tryz.func104, Tryz.ntmps104
  go_wp2_with (first | (go_at_call 113; refine HS.out.mono ?_; rintro e w' ⟨rfl, rfl⟩) | (go_at_call 121; refine HE.out.mono ?_; rintro e w' ⟨rfl, rfl⟩))
  go_ret2
  exact ⟨rfl, rfl⟩

theorem takeYes (A : Option Addr) (c : Nat) (l : List Nat) (n k : Nat) (w : World) (hr : Rd w w.heap.size A (ints .u8 l)) (h256 : ∀ x ∈ l, x < 256) (hc : l.length ≤ c) (hn : n ≤ 1000) (hk : k ≤ 64) (hl : l.length = (n * k + 7) / 8) (hend : cat 8 l < 2 ^ (n * k)) :
    Calls Tryz.prog 104 #[.slice A l.length c, .int .i64 n, .int .i64 k] w fun e w' => e = .returned (.tuple #[.slice (some ⟨w.heap.size, 0, none⟩) n n, .bool true]) ∧
      Row w' w.heap.size 63 .u64 (chop k (cat 8 l) n) ∧ Below w.heap.size w w' := by
  have hnk : n * k ≤ 64000 := Nat.le_trans (Nat.mul_le_mul hn hk) (by decide)
  have h1 : (n : Int) * (k : Int) ≤ 64000 := by have := Int.ofNat_le.2 hnk; simpa using this
  have h0 : 0 ≤ (n : Int) * (k : Int) := Int.mul_nonneg (by omega) (by omega)
  have HS := Lib.hid (size_any n k (by omega) w)
  have HE := Lib.hid (ended_at A c l ((n : Int) * (k : Int)) (n * k) w _ (by simp) hr (by omega) hl h256)
  rw [← hl] at HS
  rw [decide_eq_true hend] at HE
  have hne : ((l.length : Int) != (l.length : Int)) = false := by simp
  have HR := Lib.hid hr
  have HLEN := Lib.hid hl
  have hl8 : l.length ≤ 8001 := by omega
  clear hr hl hend
  have hmk := fun W => run_make_row' (P := Tryz.prog) 62 63 (.int .u64 0) 8 Tryz.underlying62 info_u64 rfl .i64 .i64 n (by omega) (by omega) W
  go_enter Tryz.func104, Tryz.ntmps104
  go_wp2_with (first | (go_at_call 113; refine HS.out.mono ?_; rintro e w' ⟨rfl, rfl⟩) | (go_at_call 121; refine HE.out.mono ?_; rintro e w' ⟨rfl, rfl⟩))
  clear hmk HS HE
  obtain ⟨L, hL⟩ : ∃ L, L = chop k (cat 8 l) n := ⟨_, rfl⟩
  have hLn : L.length = n := by rw [hL, chop_length]
  go_loopw [42] (fun i wr => ∃ j : Nat, j ≤ n ∧ i = .int .i64 j ∧ Row wr w.heap.size 63 .u64 (L.take j ++ List.replicate (n - j) 0) ∧ Below w.heap.size w wr) (fun i _ => n - (intOf i).toNat)
  case atStart =>
    refine ⟨0, Nat.zero_le _, rfl, ?_, (Below.refl _ _).alloc (Nat.le_refl _) _⟩
    simp only [List.take_zero, List.nil_append, Nat.sub_zero]
    exact Row.made w _ .u64 n
  case round =>
    obtain ⟨j, hj, rfl, hrow, hbel⟩ := hrel
    by_cases hlt : j < n
    · have hj1 : (j + 1) * k ≤ n * k := Nat.mul_le_mul_right _ hlt
      have hj2 : (j + 1) * k = j * k + k := Nat.succ_mul j k
      have h3 : (j : Int) * (k : Int) ≤ 64000 := by
        have : j * k ≤ 64000 := by omega
        have := Int.ofNat_le.2 this
        simpa using this
      have h4 : 0 ≤ (j : Int) * (k : Int) := Int.mul_nonneg (by omega) (by omega)
      have HP := Lib.hid (pick_at A c l ((j : Int) * (k : Int)) (j * k) k wr _ (by simp) (HR.out.below hbel) h256 hc hk (by omega) (by have := HLEN.out; omega)
        (fun hk0 => ⟨List.eq_nil_of_length_eq_zero (by have := HLEN.out; subst hk0; simpa using this), by simp [hk0]⟩))
      have hcl := hrow.cell j (by simp [hLn]; omega)
      have hfr := hrow.frozen j
      obtain ⟨old, hold⟩ : ∃ old : Int, wr.cell? ⟨w.heap.size, j, none⟩ = some (.int .u64 old) := ⟨_, hcl⟩
      clear hcl
      obtain ⟨x, hx⟩ : ∃ x, x = cat 8 l / 2 ^ (j * k) % 2 ^ k := ⟨_, rfl⟩
      rw [← hx] at HP
      have hxL : x = L[j]'(by omega) := by
        subst hL
        rw [chop_get, hx, Nat.mul_comm]
      have HN := Lib.hid (hrow.set' j x (x : Int) rfl _ (set_fill L j n hLn hlt x hxL))
      have HB := Lib.hid (hbel.setCell (p := ⟨w.heap.size, j, none⟩) (Nat.le_refl _) (.int .u64 (x : Int)))
      clear hrow hbel hxL hx hL hj1 hj2
      have HLn := Lib.hid hLn
      clear hLn
      go_wp2_with (go_at_call 122; refine HP.out.mono ?_; rintro e w2 ⟨rfl, rfl⟩)
      go_roundw
      case rel => exact ⟨j + 1, hlt, by go_num, HN.out, HB.out⟩
      case measure => simp [intOf]; omega
    · have hfin : L.take j ++ List.replicate (n - j) 0 = chop k (cat 8 l) n := by
        rw [show n - j = 0 by omega, List.replicate_zero, List.append_nil, List.take_of_length_le (by omega), hL]
      rw [hfin] at hrow
      have HRow := Lib.hid hrow
      have HB := Lib.hid hbel
      clear hrow hbel hfin hL hLn
      go_wp2
      go_ret2
      exact ⟨rfl, HRow.out, HB.out⟩

theorem takeNo (A : Option Addr) (c : Nat) (l : List Nat) (n k : Int) (w : World) (B : Nat) (hr : Rd w B A (ints .u8 l)) (h256 : ∀ x ∈ l, x < 256) (hl : l.length ≤ 1000000) (h : ¬ TakeOK l n k) :
    Calls Tryz.prog 104 #[.slice A l.length c, .int .i64 n, .int .i64 k] w fun e w' => e = .returned (.tuple #[.slice none 0 0, .bool false]) ∧ w = w' := by
  by_cases h1 : n < 0 ∨ 1000 < n ∨ k < 0 ∨ 64 < k
  · exact take_arg A c l n k w h1
  · obtain ⟨n', rfl⟩ := Int.eq_ofNat_of_zero_le (show 0 ≤ n by omega)
    obtain ⟨k', rfl⟩ := Int.eq_ofNat_of_zero_le (show 0 ≤ k by omega)
    by_cases h2 : l.length = (n' * k' + 7) / 8
    · exact take_end A c l n' k' w B hr h256 (by omega) (by omega) h2 fun h3 => h ⟨n', k', rfl, rfl, by omega, by omega, h2, h3⟩
    · exact take_len A c l n' k' w (by omega) (by omega) hl h2

/-! The contracts once more, every argument open. -/
theorem put_yes (A : Option Addr) (n c : Nat) (l : List Nat) (z : Int) (k m g : Nat) (w : World) (hn : n = l.length) (hz : z = (k : Int)) (hm : m = (l.length * k + 7) / 8) (hg : g = w.heap.size)
    (hr : Rd w g A (ints .u64 l)) (hl : l.length ≤ 1000) (h64 : ∀ x ∈ l, x < 18446744073709551616) (hk : k ≤ 64) (hw : widL l ≤ k) :
    Calls Tryz.prog 91 #[.slice A n c, .int .i64 z] w fun e w' => e = .returned (.tuple #[.slice (some ⟨g, 0, none⟩) m m, .bool true]) ∧ Row w' g 5 .u8 (chop 8 (cat k l) m) ∧ Below g w w' := by
  subst hn hz hm hg
  exact putYes A c l k w hr hl h64 hk hw
theorem put_no (A : Option Addr) (n c : Nat) (l : List Nat) (z : Int) (w : World) (B : Nat) (hn : n = l.length) (hr : Rd w B A (ints .u64 l)) (hl : l.length ≤ 1000) (h64 : ∀ x ∈ l, x < 18446744073709551616)
    (h : z < 0 ∨ 64 < z ∨ z < widL l) :
    Calls Tryz.prog 91 #[.slice A n c, .int .i64 z] w fun e w' => e = .returned (.tuple #[.slice none 0 0, .bool false]) ∧ w = w' := by
  subst hn
  exact putNo A c l z w B hr hl h64 h
theorem take_yes (A : Option Addr) (m c : Nat) (l : List Nat) (zn zk : Int) (n k g : Nat) (w : World) (hm : m = l.length) (hzn : zn = (n : Int)) (hzk : zk = (k : Int)) (hg : g = w.heap.size)
    (hr : Rd w g A (ints .u8 l)) (h256 : ∀ x ∈ l, x < 256) (hc : l.length ≤ c) (hn : n ≤ 1000) (hk : k ≤ 64) (hl : l.length = (n * k + 7) / 8) (hend : cat 8 l < 2 ^ (n * k)) :
    Calls Tryz.prog 104 #[.slice A m c, .int .i64 zn, .int .i64 zk] w fun e w' => e = .returned (.tuple #[.slice (some ⟨g, 0, none⟩) n n, .bool true]) ∧
      Row w' g 63 .u64 (chop k (cat 8 l) n) ∧ Below g w w' := by
  subst hm hzn hzk hg
  exact takeYes A c l n k w hr h256 hc hn hk hl hend
theorem take_no (A : Option Addr) (m c : Nat) (l : List Nat) (n k : Int) (w : World) (B : Nat) (hm : m = l.length) (hr : Rd w B A (ints .u8 l)) (h256 : ∀ x ∈ l, x < 256) (hl : l.length ≤ 1000000) (h : ¬ TakeOK l n k) :
    Calls Tryz.prog 104 #[.slice A m c, .int .i64 n, .int .i64 k] w fun e w' => e = .returned (.tuple #[.slice none 0 0, .bool false]) ∧ w = w' := by
  subst hm
  exact takeNo A c l n k w B hr h256 hl h
theorem width_at (A : Option Addr) (n c : Nat) (l : List Nat) (m : Nat) (w : World) (B : Nat) (hn : n = l.length) (hm : m = widL l) (hr : Rd w B A (ints .u64 l)) (hl : l.length ≤ 1000000) (h64 : ∀ x ∈ l, x < 18446744073709551616) :
    Calls Tryz.prog 95 #[.slice A n c] w fun e w' => e = .returned (.int .i64 (m : Int)) ∧ w = w' := by
  subst hn hm
  exact width_any A c l w B hr hl h64
end Go.Proofs.YtldalkhmbpkjpaaGreatDoor

/- Walks of the document's answer for bits: width, Width, PutBits. -/

namespace Go.Proofs.YtldalkhmbpkjpaaGreatDoor
open Go.RowKit
set_option linter.unusedVariables false

theorem ref_width (v : Nat) (hv : v < 18446744073709551616) (w : World) :
    Calls Tryz.prog 58 #[.int .u64 v] w fun e w' => e = .returned (.int .i64 (wid v : Int)) ∧ w = w' := by
  have h64 := wid_le64 hv
  go_enter Tryz.func58, Tryz.ntmps58
  go_wp2
  go_loop [3, 0] (fun n x => ∃ (j y : Nat), n = .int .i64 j ∧ x = .int .u64 y ∧ y < 18446744073709551616 ∧ j + wid y = wid v) (fun _ x => (intOf x).toNat)
  case atStart => exact ⟨0, v, rfl, rfl, hv, by omega⟩
  case round =>
    obtain ⟨j, y, rfl, rfl, hy, hjy⟩ := hrel
    have HJ := Lib.hid hjy
    have hj64 : j ≤ 64 := by omega
    clear hjy
    by_cases h0 : 0 < y
    · go_wp2
      go_round
      case rel => exact ⟨j + 1, y / 2, by go_num, by simp, by omega, by have := HJ.out; have := wid_half y h0; omega⟩
      case measure => simp [intOf]; omega
    · have hy0 : y = 0 := by omega
      subst hy0
      have hf : (j : Int) = (wid v : Int) := by have := HJ.out; rw [wid_zero] at this; omega
      have HF := Lib.hid hf
      clear hf
      go_wp2
      go_ret
      exact ⟨ret_int HF.out, rfl⟩

theorem ref_Width (A : Option Addr) (n c : Nat) (l : List Nat) (m : Nat) (w : World) (B : Nat) (hn : n = l.length) (hm : m = widL l) (hr : Rd w B A (ints .u64 l)) (hl : l.length ≤ 1000000) (h64 : ∀ x ∈ l, x < 18446744073709551616) :
    Calls Tryz.prog 56 #[.slice A n c] w fun e w' => e = .returned (.int .i64 (m : Int)) ∧ w = w' := by
  subst hn hm
  have hw := widL_le64
  have HR := Lib.hid hr
  clear hr
  go_enter Tryz.func56, Tryz.ntmps56
  go_wp2
  go_loop [3, 4] (fun m i => ∃ k : Nat, k ≤ l.length ∧ i = .int .i64 k ∧ m = .int .i64 (widL (l.take k) : Int)) (fun _ i => l.length - (intOf i).toNat)
  case atStart => exact ⟨0, Nat.zero_le _, rfl, rfl⟩
  case round =>
    obtain ⟨k, hk, rfl, rfl⟩ := hrel
    by_cases hlt : k < l.length
    · obtain ⟨b, off, rfl, hb, hc⟩ := HR.out.at_ (k := k) (by simpa [ints] using hlt)
      simp only [ints, List.getElem_map] at hc
      have hx := h64 _ (List.getElem_mem hlt)
      have HT := Lib.hid (widL_take l k hlt)
      obtain ⟨x, hxe⟩ : ∃ x, x = l[k] := ⟨_, rfl⟩
      rw [← hxe] at hc hx HT
      clear hxe
      go_wp2_with (go_at_call 58; refine (ref_width x hx _).mono ?_; rintro e w' ⟨rfl, rfl⟩)
      go_round
      case rel => exact ⟨k + 1, by omega, by go_num, by rw [HT.out]; first | rw [int_max] | (congr 1; split <;> omega)⟩
      case measure => simp [intOf]; omega
    · go_wp2
      go_ret
      exact ⟨ret_int (by rw [List.take_of_length_le (by omega)]), rfl⟩

theorem refBitsPut_no (A : Option Addr) (n c : Nat) (l : List Nat) (k : Int) (w : World) (B : Nat) (hn : n = l.length) (hr : Rd w B A (ints .u64 l)) (hl : l.length ≤ 1000) (h64 : ∀ x ∈ l, x < 18446744073709551616)
    (h : k < 0 ∨ 64 < k ∨ k < widL l) :
    Calls Tryz.prog 32 #[.slice A n c, .int .i64 k] w fun e w' => e = .returned (.tuple #[.slice none 0 0, .bool false]) ∧ w = w' := by
  subst hn
  have HW := Lib.hid (ref_Width A l.length c l (widL l) w B rfl rfl hr (by omega) h64)
  clear hr
  rcases Int.lt_or_le k 0 with h1 | h1
  · go_enter Tryz.func32, Tryz.ntmps32
    go_wp2_with fail
    go_ret2
    exact ⟨rfl, rfl⟩
  · rcases Int.lt_or_le 64 k with h2 | h2
    · go_enter Tryz.func32, Tryz.ntmps32
      go_wp2_with fail
      go_ret2
      exact ⟨rfl, rfl⟩
    · have h3 : k < widL l := by omega
      clear h
      go_enter Tryz.func32, Tryz.ntmps32
      go_wp2_with (go_at_call 56; refine HW.out.mono ?_; rintro e w' ⟨rfl, rfl⟩)
      go_ret2
      exact ⟨rfl, rfl⟩

theorem refBitsPut_yes (A : Option Addr) (n c : Nat) (l : List Nat) (z : Int) (k m g : Nat) (w : World) (hn : n = l.length) (hz : z = (k : Int)) (hm : m = (l.length * k + 7) / 8) (hg : g = w.heap.size)
    (hr : Rd w g A (ints .u64 l)) (hl : l.length ≤ 1000) (h64 : ∀ x ∈ l, x < 18446744073709551616) (hk : k ≤ 64) (hw : widL l ≤ k) :
    Calls Tryz.prog 32 #[.slice A n c, .int .i64 z] w fun e w' => e = .returned (.tuple #[.slice (some ⟨g, 0, none⟩) m m, .bool true]) ∧ Row w' g 5 .u8 (chop 8 (cat k l) m) ∧ Below g w w' := by
  subst hn hz hg
  have HW := Lib.hid (ref_Width A l.length c l (widL l) w _ rfl rfl hr (by omega) h64)
  have hlk : l.length * k ≤ 64000 := Nat.le_trans (Nat.mul_le_mul hl hk) (by decide)
  have h1 : (l.length : Int) * (k : Int) ≤ 64000 := by have := Int.ofNat_le.2 hlk; simpa using this
  have h0 : 0 ≤ (l.length : Int) * (k : Int) := Int.mul_nonneg (by omega) (by omega)
  have hme : ((l.length : Int) * (k : Int) + 7) / 8 = (m : Int) := by rw [hm]; simp
  have hm8 : m ≤ 8001 := by omega
  have HR := Lib.hid hr
  have HM := Lib.hid hm
  clear hr hm
  have hmk := fun W => run_make_row' (P := Tryz.prog) 22 5 (.int .u8 0) 1 Tryz.underlying22 info_u8 rfl .i64 .i64 m (by omega) (by omega) W
  go_enter Tryz.func32, Tryz.ntmps32
  go_wp2_with (go_at_call 56; refine HW.out.mono ?_; rintro e w' ⟨rfl, rfl⟩)
  have hxl : ∀ x ∈ l, x < 2 ^ k := (widL_le l k).1 hw
  have HXL := Lib.hid hxl
  clear hxl hmk HW
  go_loopw [7] (fun i wr => ∃ j : Nat, j ≤ l.length ∧ i = .int .i64 j ∧ Row wr w.heap.size 5 .u8 (chop 8 (cat k (l.take j)) m) ∧ Below w.heap.size w wr) (fun i _ => l.length - (intOf i).toNat)
  case atStart =>
    refine ⟨0, Nat.zero_le _, rfl, ?_, (Below.refl _ _).alloc (Nat.le_refl _) _⟩
    rw [List.take_zero, show cat k [] = 0 from rfl, chop_zero]
    exact Row.made w _ .u8 m
  case round =>
    obtain ⟨j, hj, rfl, hrow, hbel⟩ := hrel
    by_cases hlt : j < l.length
    · obtain ⟨b, off, rfl, hb, hc⟩ := (HR.out.below hbel).at_ (k := j) (by rw [ints_length]; exact hlt)
      simp only [ints, List.getElem_map] at hc
      have hx := h64 _ (List.getElem_mem hlt)
      have HC := Lib.hid (cat_snoc k j l hlt)
      have HX := Lib.hid (HXL.out _ (List.getElem_mem hlt))
      have hjk : (j + 1) * k ≤ l.length * k := Nat.mul_le_mul_right _ hlt
      have hjs : (j + 1) * k = j * k + k := Nat.succ_mul j k
      obtain ⟨p, hp⟩ : ∃ p, p = j * k := ⟨_, rfl⟩
      have hpe : (j : Int) * (k : Int) = (p : Int) := by rw [hp]; simp
      have hpk : p + k ≤ l.length * k := by omega
      obtain ⟨x, hxe⟩ : ∃ x, x = l[j] := ⟨_, rfl⟩
      rw [← hxe] at hc hx HC HX
      rw [← hp] at HC
      have HM0 := Lib.hid (by have := cat_take_lt k j l HXL.out hj; rwa [← hp] at this)
      obtain ⟨M, hM⟩ : ∃ M, M = cat k (l.take j) := ⟨_, rfl⟩
      rw [← hM] at HC hrow HM0
      clear hxe hp hjs hjk hM
      have HROW := Lib.hid hrow
      have HBEL := Lib.hid hbel
      clear hrow hbel
      go_wp2_with fail
      have hpm : p + k ≤ 8 * m := by have := HM.out; omega
      go_loopw [9, 8] (fun q u wi => ∃ i : Nat, i ≤ k ∧ q = .int .i64 i ∧ u = .int .u64 (x / 2 ^ i : Nat) ∧ Row wi w.heap.size 5 .u8 (chop 8 (M + (x % 2 ^ i) * 2 ^ p) m) ∧ Below w.heap.size w wi) (fun q _ _ => k - (intOf q).toNat)
      case atStart => exact ⟨0, Nat.zero_le _, rfl, by simp, by simpa [Nat.mod_one] using HROW.out, HBEL.out⟩
      case round =>
        obtain ⟨i, hi, rfl, rfl, hrow, hbel⟩ := hrel
        by_cases hik : i < k
        · have hq : (p + i) / 8 < m := by omega
          have hcell := hrow.cell ((p + i) / 8) (by rw [chop_length]; exact hq)
          have hy := chop_lt 8 m (M + (x % 2 ^ i) * 2 ^ p) _ (List.getElem_mem (by rw [chop_length]; exact hq))
          have hfr := hrow.frozen ((p + i) / 8)
          obtain ⟨y, hye⟩ : ∃ y, y = (chop 8 (M + (x % 2 ^ i) * 2 ^ p) m)[(p + i) / 8]'(by rw [chop_length]; exact hq) := ⟨_, rfl⟩
          rw [← hye] at hcell hy
          have HY := Lib.hid hye
          have HROWI := Lib.hid hrow
          have HBELI := Lib.hid hbel
          have hv : x / 2 ^ i < 18446744073709551616 := shr_lt _ _ hx
          obtain ⟨v, hve⟩ : ∃ v, v = x / 2 ^ i := ⟨_, rfl⟩
          rw [← hve] at hv ⊢
          have HV := Lib.hid hve
          clear hye hrow hbel hve
          go_wp2_with fail
          go_region
          go_wp2
          go_roundw
          case rel =>
            refine ⟨i + 1, hik, by go_num, by rw [HV.out, Nat.pow_succ, ← Nat.div_div_eq_div_mul]; simp, ?_, (HBELI.out.setCell (Nat.le_refl _) _).drew⟩
            refine Row.drew (HROWI.out.set' _ ((y + v % 2 * 2 ^ ((p + i) % 8)) % 256) _ (by simp) _ ?_)
            rw [HV.out]
            exact refStep M x p i m y HM0.out (by rw [HY.out, chop_get])
          case measure => simp [intOf]; omega
        · have hie : i = k := by omega
          subst hie
          rw [Nat.mod_eq_of_lt HX.out, ← HC.out] at hrow
          have HROWI := Lib.hid hrow
          have HBELI := Lib.hid hbel
          clear hrow hbel
          go_wp2
          go_roundw
          case rel => exact ⟨j + 1, hlt, by go_num, HROWI.out, HBELI.out⟩
          case measure => simp [intOf]; omega
    · have hfin : l.take j = l := List.take_of_length_le (by omega)
      rw [hfin] at hrow
      have HRow := Lib.hid hrow
      have HB := Lib.hid hbel
      clear hrow hbel hfin
      go_wp2
      go_ret2
      exact ⟨rfl, HRow.out, HB.out⟩
end Go.Proofs.YtldalkhmbpkjpaaGreatDoor

/- Walks of the document's answer for bits: TakeBits. -/

namespace Go.Proofs.YtldalkhmbpkjpaaGreatDoor
open Go.RowKit
set_option linter.unusedVariables false

theorem run_cv' (A : Option Addr) (n c : Nat) (l : List Nat) (hn : n = l.length) (w : World) (B : Nat) (hr : Rd w B A (ints .u8 l)) :
    (convert 22 9 (.slice A n c)).run Tryz.prog w = .ok (.string (bstr l)) w :=
  run_bstr 22 5 9 Tryz.underlying22 Tryz.underlying5 Tryz.underlying9 A n c l hn w B hr

theorem refBitsTake_arg (A : Option Addr) (m c : Nat) (n k : Int) (w : World) (h : n < 0 ∨ 1000 < n ∨ k < 0 ∨ 64 < k) :
    Calls Tryz.prog 47 #[.slice A m c, .int .i64 n, .int .i64 k] w fun e w' => e = .returned (.tuple #[.slice none 0 0, .bool false]) ∧ w = w' := by
  rcases Int.lt_or_le n 0 with h1 | h1
  · go_enter Tryz.func47, Tryz.ntmps47
    go_wp2_with fail
    go_ret2
    exact ⟨rfl, rfl⟩
  · rcases Int.lt_or_le 1000 n with h2 | h2
    · go_enter Tryz.func47, Tryz.ntmps47
      go_wp2_with fail
      go_ret2
      exact ⟨rfl, rfl⟩
    · rcases Int.lt_or_le k 0 with h3 | h3
      · go_enter Tryz.func47, Tryz.ntmps47
        go_wp2_with fail
        go_ret2
        exact ⟨rfl, rfl⟩
      · have h4 : 64 < k := by omega
        clear h
        go_enter Tryz.func47, Tryz.ntmps47
        go_wp2_with fail
        go_ret2
        exact ⟨rfl, rfl⟩

theorem refBitsTake_len (A : Option Addr) (m c : Nat) (n k : Nat) (w : World) (hn : n ≤ 1000) (hk : k ≤ 64) (h : m ≠ (n * k + 7) / 8) (hm : m ≤ 1000000) :
    Calls Tryz.prog 47 #[.slice A m c, .int .i64 n, .int .i64 k] w fun e w' => e = .returned (.tuple #[.slice none 0 0, .bool false]) ∧ w = w' := by
  have hnk : n * k ≤ 64000 := Nat.le_trans (Nat.mul_le_mul hn hk) (by decide)
  have h1 : (n : Int) * (k : Int) ≤ 64000 := by have := Int.ofNat_le.2 hnk; simpa using this
  have h0 : 0 ≤ (n : Int) * (k : Int) := Int.mul_nonneg (by omega) (by omega)
  obtain ⟨q, hq⟩ : ∃ q, q = (n * k + 7) / 8 := ⟨_, rfl⟩
  have hqe : ((n : Int) * (k : Int) + 7) / 8 = (q : Int) := by rw [hq]; simp
  rw [← hq] at h
  clear hq
  have hne : ((m : Int) != (q : Int)) = true := by rw [bne_iff_ne]; omega
  go_enter Tryz.func47, Tryz.ntmps47
  go_wp2_with fail
  go_ret2
  exact ⟨rfl, rfl⟩

theorem takeVal (y x s : Nat) (hy : y < 9223372036854775808) : IntKind.u64.wrap (2 * (y : Int) + IntKind.u64.wrap (((x : Int) / 2 ^ s).tmod 2)) = ((2 * y + x / 2 ^ s % 2 : Nat) : Int) := by
  rw [cast_shr]
  generalize x / 2 ^ s = z
  rw [Int.tmod_eq_emod_of_nonneg (by omega), IntKind.wrap_u64, IntKind.wrap_u64]
  omega

set_option maxHeartbeats 1000000 in
theorem refBitsTake_body (ok : Bool) (A : Option Addr) (c : Nat) (l : List Nat) (n k : Nat) (w : World) (hr : Rd w w.heap.size A (ints .u8 l)) (h256 : ∀ x ∈ l, x < 256) (hn : n ≤ 1000) (hk : k ≤ 64) (hl : l.length = (n * k + 7) / 8) (hok : ok = decide (cat 8 l < 2 ^ (n * k))) :
    Calls Tryz.prog 47 #[.slice A l.length c, .int .i64 n, .int .i64 k] w fun e w' => (ok = true → e = .returned (.tuple #[.slice (some ⟨w.heap.size, 0, none⟩) n n, .bool true]) ∧
      Row w' w.heap.size 63 .u64 (chop k (cat 8 l) n)) ∧ (ok = false → e = .returned (.tuple #[.slice none 0 0, .bool false])) ∧ Below w.heap.size w w' := by
  have hnk : n * k ≤ 64000 := Nat.le_trans (Nat.mul_le_mul hn hk) (by decide)
  have h1 : (n : Int) * (k : Int) ≤ 64000 := by have := Int.ofNat_le.2 hnk; simpa using this
  have h0 : 0 ≤ (n : Int) * (k : Int) := Int.mul_nonneg (by omega) (by omega)
  have hle : ((n : Int) * (k : Int) + 7) / 8 = (l.length : Int) := by rw [hl]; simp
  have hne : ((l.length : Int) != (l.length : Int)) = false := by simp
  have hl8 : l.length ≤ 8001 := by omega
  have HLEN := Lib.hid hl
  have HR := Lib.hid hr
  have HOK := Lib.hid hok
  clear hr hl hok
  have hmk := fun W => run_make_row' (P := Tryz.prog) 62 63 (.int .u64 0) 8 Tryz.underlying62 info_u64 rfl .i64 .i64 n (by omega) (by omega) W
  go_enter Tryz.func47, Tryz.ntmps47
  go_wp2_with fail
  clear hmk
  obtain ⟨L, hL⟩ : ∃ L, L = chop k (cat 8 l) n := ⟨_, rfl⟩
  have hLn : L.length = n := by rw [hL, chop_length]
  have HLn := Lib.hid hLn
  have HL := Lib.hid hL
  clear hLn hL
  go_loopw [9] (fun i wr => ∃ j : Nat, j ≤ n ∧ i = .int .i64 j ∧ Row wr w.heap.size 63 .u64 (L.take j ++ List.replicate (n - j) 0) ∧ Below w.heap.size w wr) (fun i _ => n - (intOf i).toNat)
  case atStart =>
    refine ⟨0, Nat.zero_le _, rfl, ?_, (Below.refl _ _).alloc (Nat.le_refl _) _⟩
    simp only [List.take_zero, List.nil_append, Nat.sub_zero]
    exact Row.made w _ .u64 n
  case round =>
    obtain ⟨j, hj, rfl, hrow, hbel⟩ := hrel
    have HROW := Lib.hid hrow
    have HBEL := Lib.hid hbel
    clear hrow hbel
    by_cases hlt : j < n
    · have hjk : (j + 1) * k ≤ n * k := Nat.mul_le_mul_right _ hlt
      have hjs : (j + 1) * k = j * k + k := Nat.succ_mul j k
      obtain ⟨p, hp⟩ : ∃ p, p = j * k := ⟨_, rfl⟩
      have hpe : (j : Int) * (k : Int) = (p : Int) := by rw [hp]; simp
      have hpk : p + k ≤ n * k := by omega
      have HP := Lib.hid hp
      clear hp hjs hjk
      go_wp2_with fail
      go_loopw [10] (fun q wi => ∃ t : Nat, t ≤ k ∧ q = .int .i64 ((t : Int) - 1) ∧ Row wi w.heap.size 63 .u64 ((L.take j ++ List.replicate (n - j) 0).set j (cat 8 l / 2 ^ (p + t) % 2 ^ (k - t))) ∧ Below w.heap.size w wi) (fun q _ => (intOf q + 1).toNat)
      case atStart =>
        refine ⟨k, Nat.le_refl _, rfl, ?_, HBEL.out⟩
        rw [Nat.sub_self, Nat.pow_zero, Nat.mod_one, set_same L j n HLn.out hlt]
        exact HROW.out
      case round =>
        obtain ⟨t, ht, rfl, hrow, hbel⟩ := hrel
        rcases t with _ | t
        · have e1 : ((0 : Nat) : Int) - 1 = -1 := rfl
          rw [e1]
          rw [Nat.add_zero, Nat.sub_zero] at hrow
          have hx : cat 8 l / 2 ^ p % 2 ^ k = L[j]'(by have := HLn.out; omega) := by
            have e := HL.out
            subst e
            rw [chop_get, HP.out, Nat.mul_comm]
          rw [set_fill L j n HLn.out hlt _ hx] at hrow
          have HROWI := Lib.hid hrow
          have HBELI := Lib.hid hbel
          clear hrow hbel hx
          go_wp2_with fail
          go_roundw
          case rel => exact ⟨j + 1, hlt, by go_num, HROWI.out, HBELI.out⟩
          case measure => simp [intOf]; omega
        · have e1 : ((t + 1 : Nat) : Int) - 1 = (t : Int) := by omega
          rw [e1]
          have hq : (p + t) / 8 < l.length := by have := HLEN.out; omega
          obtain ⟨b, off, rfl, hb, hc⟩ := (HR.out.below hbel).at_ (k := (p + t) / 8) (by rw [ints_length]; exact hq)
          simp only [ints, List.getElem_map] at hc
          have hx := h256 _ (List.getElem_mem hq)
          have HX := Lib.hid (cat_get 8 l h256 ((p + t) / 8) hq)
          obtain ⟨x, hxe⟩ : ∃ x, x = l[(p + t) / 8] := ⟨_, rfl⟩
          rw [← hxe] at hc hx HX
          clear hxe
          have hcell := hrow.cell j (by simp; have := HLn.out; omega)
          simp only [List.getElem_set_self] at hcell
          have hfr := hrow.frozen j
          have hold : cat 8 l / 2 ^ (p + (t + 1)) % 2 ^ (k - (t + 1)) < 9223372036854775808 := Nat.lt_of_lt_of_le (Nat.mod_lt _ (Nat.two_pow_pos _)) (pow_le64 k t hk)
          have HN := Lib.hid (refTakeStep (cat 8 l) p t k (by omega))
          obtain ⟨y, hy⟩ : ∃ y, y = cat 8 l / 2 ^ (p + (t + 1)) % 2 ^ (k - (t + 1)) := ⟨_, rfl⟩
          rw [← hy] at hcell hold HN hrow
          have HROWI := Lib.hid hrow
          have HBELI := Lib.hid hbel
          clear hrow hbel hy
          go_wp2_with fail
          go_region
          go_wp2
          go_roundw
          case rel =>
            refine ⟨t, by omega, rfl, ?_, (HBELI.out.setCell (Nat.le_refl _) _).drew⟩
            refine Row.drew (HROWI.out.set' j _ _ (takeVal y x ((p + t) % 8) hold) _ ?_)
            rw [List.set_set, HX.out, refBit _ _ _ (by omega), show 8 * ((p + t) / 8) + (p + t) % 8 = p + t by omega, HN.out]
          case measure => simp [intOf]
    · have hfin : L.take j ++ List.replicate (n - j) 0 = chop k (cat 8 l) n := by
        rw [show n - j = 0 by omega, List.replicate_zero, List.append_nil, List.take_of_length_le (by have := HLn.out; omega), HL.out]
      have hrow := HROW.out
      rw [hfin] at hrow
      have HRow := Lib.hid hrow
      clear hrow hfin HROW
      go_wp2_with fail
      refine (refBitsPut_yes (some ⟨w.heap.size, 0, none⟩) n n (chop k (cat 8 l) n) k k l.length wr.heap.size wr (by rw [chop_length]) rfl (by rw [chop_length]; exact HLEN.out) rfl HRow.out.rd (by rw [chop_length]; exact hn)
        (fun x hx => Nat.lt_of_lt_of_le (chop_lt k n _ x hx) (by have : 2 ^ k ≤ 2 ^ 64 := Nat.pow_le_pow_right (by omega) hk; simpa using this)) hk ((widL_le _ _).2 (chop_lt k n _))).mono ?_
      rintro e w1 ⟨rfl, r1, b1⟩
      have hg := HRow.out.lt
      have HRow1 := Lib.hid (HRow.out.below b1 hg)
      have HB1 := Lib.hid (HBEL.out.trans (b1.mono (by omega)))
      have hcv1 := run_cv' (some ⟨wr.heap.size, 0, none⟩) l.length l.length (chop 8 (cat k (chop k (cat 8 l) n)) l.length) (by rw [chop_length]) w1 _ r1.rd
      have hcv2 := run_cv' A l.length c l rfl w1 _ (HR.out.below HB1.out)
      obtain ⟨S2, hS2⟩ : ∃ S2, S2 = bstr l := ⟨_, rfl⟩
      cases ok
      · have hne : chop 8 (cat k (chop k (cat 8 l) n)) l.length ≠ l := fun h => by
          have := (again_iff l n k l.length h256 HLEN.out rfl).1 h
          have := HOK.out
          rw [decide_eq_true ‹_›] at this
          cases this
        obtain ⟨S1, hS1⟩ : ∃ S1, S1 = bstr (chop 8 (cat k (chop k (cat 8 l) n)) l.length) := ⟨_, rfl⟩
        have hSb : (S1.toList == S2.toList) = false := by rw [hS1, hS2]; exact bstr_ne (chop_lt 8 _ _) h256 hne
        rw [← hS1] at hcv1
        rw [← hS2] at hcv2
        clear hS1 hS2 r1 b1 hne
        go_wp2
        go_ret2
        exact ⟨rfl, HB1.out⟩
      · rw [(again_iff l n k l.length h256 HLEN.out rfl).2 (of_decide_eq_true HOK.out.symm), ← hS2] at hcv1
        rw [← hS2] at hcv2
        clear hS2 r1 b1
        go_wp2
        go_ret2
        exact ⟨⟨rfl, HRow1.out⟩, HB1.out⟩
end Go.Proofs.YtldalkhmbpkjpaaGreatDoor

/- The contracts of bits (the program's, the reference's) as the codecs ask them. -/

namespace Go.Proofs.YtldalkhmbpkjpaaGreatDoor
open Go.RowKit
set_option linter.unusedVariables false

/-- What a call tells that gives numbers, or a no. -/
def PutsU (o : Option (List Nat)) (w : World) (e : Ending) (w' : World) : Prop :=
  ((o = none ∧ e = .returned (.tuple #[.slice none 0 0, .bool false])) ∨
    ∃ l A c, o = some l ∧ e = .returned (.tuple #[.slice A l.length c, .bool true]) ∧ Has w' A (ints .u64 l)) ∧ Later w w'
theorem PutsU.no {o : Option (List Nat)} {w w' : World} {e : Ending} (h : PutsU o w e w') (hn : o = none) : e = .returned (.tuple #[.slice none 0 0, .bool false]) ∧ Later w w' := by
  obtain ⟨⟨_, h⟩ | ⟨l, A, c, h, _⟩, L⟩ := h
  · exact ⟨h, L⟩
  · rw [hn] at h; cases h
theorem PutsU.yes {o : Option (List Nat)} {w w' : World} {e : Ending} {l : List Nat} (h : PutsU o w e w') (hs : o = some l) : ∃ A c, e = .returned (.tuple #[.slice A l.length c, .bool true]) ∧ Has w' A (ints .u64 l) ∧ Later w w' := by
  obtain ⟨⟨h, _⟩ | ⟨l', A, c, h, h1, h2⟩, L⟩ := h
  · rw [hs] at h; cases h
  · rw [hs] at h; cases h; exact ⟨A, c, h1, h2, L⟩

theorem bitsPut_o (A : Option Addr) (n c : Nat) (l : List Nat) (z : Int) (k : Nat) (w : World) (hn : n = l.length) (hz : z = (k : Int)) (hr : Has w A (ints .u64 l)) (hl : l.length ≤ 1000) (h64 : ∀ x ∈ l, x < 18446744073709551616) (hk : k ≤ 64) (hw : widL l ≤ k) :
    Calls Tryz.prog 91 #[.slice A n c, .int .i64 z] w (PutsB (some (putBits l k)) w) := by
  refine (put_yes A n c l z k _ _ w hn hz rfl rfl hr hl h64 hk hw).mono ?_
  rintro e w' ⟨rfl, row, b⟩
  have hm := putBits_len l k
  have hb : l.length * k ≤ 64000 := Nat.le_trans (Nat.mul_le_mul hl hk) (by decide)
  exact ⟨.inr ⟨_, some ⟨w.heap.size, 0, none⟩, _, rfl, by rw [hm], Has.row row, by omega, by omega, fun h => by cases h⟩, Later.of b⟩
theorem refBitsPut_o (A : Option Addr) (n c : Nat) (l : List Nat) (z : Int) (k : Nat) (w : World) (hn : n = l.length) (hz : z = (k : Int)) (hr : Has w A (ints .u64 l)) (hl : l.length ≤ 1000) (h64 : ∀ x ∈ l, x < 18446744073709551616) (hk : k ≤ 64) (hw : widL l ≤ k) :
    Calls Tryz.prog 32 #[.slice A n c, .int .i64 z] w (PutsB (some (putBits l k)) w) := by
  refine (refBitsPut_yes A n c l z k _ _ w hn hz rfl rfl hr hl h64 hk hw).mono ?_
  rintro e w' ⟨rfl, row, b⟩
  have hm := putBits_len l k
  have hb : l.length * k ≤ 64000 := Nat.le_trans (Nat.mul_le_mul hl hk) (by decide)
  exact ⟨.inr ⟨_, some ⟨w.heap.size, 0, none⟩, _, rfl, by rw [hm], Has.row row, by omega, by omega, fun h => by cases h⟩, Later.of b⟩
theorem bitsTake_o (A : Option Addr) (m c : Nat) (b : List Nat) (zn zk : Int) (n k : Nat) (w : World) (hm : m = b.length) (hzn : zn = (n : Int)) (hzk : zk = (k : Int)) (hr : Has w A (ints .u8 b)) (h256 : ∀ x ∈ b, x < 256) (hb : b.length ≤ 1000000) (hc : b.length ≤ c) :
    Calls Tryz.prog 104 #[.slice A m c, .int .i64 zn, .int .i64 zk] w (PutsU (takeBits b n k) w) := by
  unfold takeBits
  by_cases h : n ≤ 1000 ∧ k ≤ 64 ∧ b.length = (n * k + 7) / 8 ∧ cat 8 b < 2 ^ (n * k)
  · rw [if_pos h]
    refine (take_yes A m c b zn zk n k _ w hm hzn hzk rfl hr h256 hc h.1 h.2.1 h.2.2.1 h.2.2.2).mono ?_
    rintro e w' ⟨rfl, row, bb⟩
    exact ⟨.inr ⟨_, some ⟨w.heap.size, 0, none⟩, n, rfl, by rw [chop_length], Has.row row⟩, Later.of bb⟩
  · rw [if_neg h]
    refine (take_no A m c b zn zk w _ hm hr h256 hb (notOK n k hzn hzk h)).mono ?_
    rintro e w' ⟨rfl, rfl⟩
    exact ⟨.inl ⟨rfl, rfl⟩, Later.refl _⟩
theorem refBitsTake_o (A : Option Addr) (m c : Nat) (b : List Nat) (zn zk : Int) (n k : Nat) (w : World) (hm : m = b.length) (hzn : zn = (n : Int)) (hzk : zk = (k : Int)) (hr : Has w A (ints .u8 b)) (h256 : ∀ x ∈ b, x < 256) (hb : b.length ≤ 1000000) :
    Calls Tryz.prog 47 #[.slice A m c, .int .i64 zn, .int .i64 zk] w (PutsU (takeBits b n k) w) := by
  subst hm hzn hzk
  unfold takeBits
  by_cases h1 : n ≤ 1000 ∧ k ≤ 64
  · by_cases h2 : b.length = (n * k + 7) / 8
    · by_cases h3 : cat 8 b < 2 ^ (n * k)
      · rw [if_pos ⟨h1.1, h1.2, h2, h3⟩]
        refine (refBitsTake_body true A c b n k w hr h256 h1.1 h1.2 h2 (by simp [h3])).mono ?_
        rintro e w' ⟨hy, _, bb⟩
        obtain ⟨rfl, row⟩ := hy rfl
        exact ⟨.inr ⟨_, some ⟨w.heap.size, 0, none⟩, n, rfl, by rw [chop_length], Has.row row⟩, Later.of bb⟩
      · rw [if_neg fun h => h3 h.2.2.2]
        refine (refBitsTake_body false A c b n k w hr h256 h1.1 h1.2 h2 (by simp [h3])).mono ?_
        rintro e w' ⟨_, hn, bb⟩
        obtain rfl := hn rfl
        exact ⟨.inl ⟨rfl, rfl⟩, Later.of bb⟩
    · rw [if_neg fun h => h2 h.2.2.1]
      refine (refBitsTake_len A b.length c n k w h1.1 h1.2 h2 hb).mono ?_
      rintro e w' ⟨rfl, rfl⟩
      exact ⟨.inl ⟨rfl, rfl⟩, Later.refl _⟩
  · rw [if_neg fun h => h1 ⟨h.1, h.2.1⟩]
    refine (refBitsTake_arg A b.length c n k w (by omega)).mono ?_
    rintro e w' ⟨rfl, rfl⟩
    exact ⟨.inl ⟨rfl, rfl⟩, Later.refl _⟩
theorem width_o (A : Option Addr) (n c : Nat) (l : List Nat) (w : World) (hn : n = l.length) (hr : Has w A (ints .u64 l)) (hl : l.length ≤ 1000000) (h64 : ∀ x ∈ l, x < 18446744073709551616) :
    Calls Tryz.prog 95 #[.slice A n c] w fun e w' => e = .returned (.int .i64 (widL l : Nat)) ∧ w = w' := width_at A n c l _ w _ hn rfl hr hl h64
theorem refWidth_o (A : Option Addr) (n c : Nat) (l : List Nat) (w : World) (hn : n = l.length) (hr : Has w A (ints .u64 l)) (hl : l.length ≤ 1000000) (h64 : ∀ x ∈ l, x < 18446744073709551616) :
    Calls Tryz.prog 56 #[.slice A n c] w fun e w' => e = .returned (.int .i64 (widL l : Nat)) ∧ w = w' := ref_Width A n c l _ w _ hn rfl hr hl h64
end Go.Proofs.YtldalkhmbpkjpaaGreatDoor
