/- Walks of package bits: low: up to eight bytes as a number, the lowest first. -/
import Derived.Test.YtfcedbhmbcbiaaaDoorBitsB
import Derived.Laws.BitsAllLaws
import Derived.Laws.BitsLemmas
namespace Go.Proofs.YtfcedbhmbcbiaaaDoor
open Go.RowKit
set_option linter.unusedVariables false

theorem or_u64 (i : Nat) (x y : Int) (hx0 : 0 ≤ x) (hx : x % 2 ^ i = 0) (hx1 : x < 18446744073709551616) (hy0 : 0 ≤ y) (hy : y < 2 ^ i ∧ y < 18446744073709551616) : bits .or .u64 x y = x + y :=
  bits_join .u64 64 (by decide) (fun n h0 h1 => IntWalk.u64_in n ⟨h0, Int.le_of_lt_add_one h1⟩) i x y hx0 hx (by simpa using hx1) hy0 hy.1 (by simpa using hy.2)

theorem low0 (A : Option Addr) (c : Nat) (w : World) (B : Nat) (hr : Rd w B A (ints .u8 [])) :
    Calls Tryd.prog 59 #[.slice A 0 c] w fun e w' => e = .returned (.int .u64 (cat 8 [] : Nat)) ∧ w = w' := by
  clear hr
  go_enter Tryd.func59, Tryd.ntmps59
  go_wp2
  go_ret
  refine ⟨ret_int ?_, rfl⟩
  rfl

theorem low1 (A : Option Addr) (c : Nat) (x0 : Nat) (w : World) (B : Nat) (h0 : x0 < 256) (hr : Rd w B A (ints .u8 [x0])) :
    Calls Tryd.prog 59 #[.slice A 1 c] w fun e w' => e = .returned (.int .u64 (cat 8 [x0] : Nat)) ∧ w = w' := by
  obtain ⟨b, off, rfl, cc⟩ := hr.all (by simp [ints])
  have c0 := cc 0 _ rfl
  rw [Nat.add_zero] at c0
  clear cc hr
  go_enter Tryd.func59, Tryd.ntmps59
  go_wp2
  go_ret
  refine ⟨ret_int ?_, rfl⟩
  simp only [cat, Nat.reducePow]
  rw [or_u64 64 (0) ((x0 : Int)) (by omega) (by omega) (by omega) (by omega) (by omega)]
  omega

theorem low2 (A : Option Addr) (c : Nat) (x0 x1 : Nat) (w : World) (B : Nat) (h0 : x0 < 256) (h1 : x1 < 256) (hr : Rd w B A (ints .u8 [x0, x1])) :
    Calls Tryd.prog 59 #[.slice A 2 c] w fun e w' => e = .returned (.int .u64 (cat 8 [x0, x1] : Nat)) ∧ w = w' := by
  obtain ⟨b, off, rfl, cc⟩ := hr.all (by simp [ints])
  have c0 := cc 0 _ rfl
  have c1 := cc 1 _ rfl
  rw [Nat.add_zero] at c0
  clear cc hr
  go_enter Tryd.func59, Tryd.ntmps59
  go_wp2
  go_ret
  refine ⟨ret_int ?_, rfl⟩
  simp only [cat, Nat.reducePow]
  rw [or_u64 64 (0) ((x1 : Int) * 256) (by omega) (by omega) (by omega) (by omega) (by omega)]
  rw [or_u64 8 (0 + (x1 : Int) * 256) ((x0 : Int)) (by omega) (by omega) (by omega) (by omega) (by omega)]
  omega

theorem low3 (A : Option Addr) (c : Nat) (x0 x1 x2 : Nat) (w : World) (B : Nat) (h0 : x0 < 256) (h1 : x1 < 256) (h2 : x2 < 256) (hr : Rd w B A (ints .u8 [x0, x1, x2])) :
    Calls Tryd.prog 59 #[.slice A 3 c] w fun e w' => e = .returned (.int .u64 (cat 8 [x0, x1, x2] : Nat)) ∧ w = w' := by
  obtain ⟨b, off, rfl, cc⟩ := hr.all (by simp [ints])
  have c0 := cc 0 _ rfl
  have c1 := cc 1 _ rfl
  have c2 := cc 2 _ rfl
  rw [Nat.add_zero] at c0
  clear cc hr
  go_enter Tryd.func59, Tryd.ntmps59
  go_wp2
  go_ret
  refine ⟨ret_int ?_, rfl⟩
  simp only [cat, Nat.reducePow]
  rw [or_u64 64 (0) ((x2 : Int) * 65536) (by omega) (by omega) (by omega) (by omega) (by omega)]
  rw [or_u64 16 (0 + (x2 : Int) * 65536) ((x1 : Int) * 256) (by omega) (by omega) (by omega) (by omega) (by omega)]
  rw [or_u64 8 (0 + (x2 : Int) * 65536 + (x1 : Int) * 256) ((x0 : Int)) (by omega) (by omega) (by omega) (by omega) (by omega)]
  omega

theorem low4 (A : Option Addr) (c : Nat) (x0 x1 x2 x3 : Nat) (w : World) (B : Nat) (h0 : x0 < 256) (h1 : x1 < 256) (h2 : x2 < 256) (h3 : x3 < 256) (hr : Rd w B A (ints .u8 [x0, x1, x2, x3])) :
    Calls Tryd.prog 59 #[.slice A 4 c] w fun e w' => e = .returned (.int .u64 (cat 8 [x0, x1, x2, x3] : Nat)) ∧ w = w' := by
  obtain ⟨b, off, rfl, cc⟩ := hr.all (by simp [ints])
  have c0 := cc 0 _ rfl
  have c1 := cc 1 _ rfl
  have c2 := cc 2 _ rfl
  have c3 := cc 3 _ rfl
  rw [Nat.add_zero] at c0
  clear cc hr
  go_enter Tryd.func59, Tryd.ntmps59
  go_wp2
  go_ret
  refine ⟨ret_int ?_, rfl⟩
  simp only [cat, Nat.reducePow]
  rw [or_u64 64 (0) ((x3 : Int) * 16777216) (by omega) (by omega) (by omega) (by omega) (by omega)]
  rw [or_u64 24 (0 + (x3 : Int) * 16777216) ((x2 : Int) * 65536) (by omega) (by omega) (by omega) (by omega) (by omega)]
  rw [or_u64 16 (0 + (x3 : Int) * 16777216 + (x2 : Int) * 65536) ((x1 : Int) * 256) (by omega) (by omega) (by omega) (by omega) (by omega)]
  rw [or_u64 8 (0 + (x3 : Int) * 16777216 + (x2 : Int) * 65536 + (x1 : Int) * 256) ((x0 : Int)) (by omega) (by omega) (by omega) (by omega) (by omega)]
  omega

theorem low5 (A : Option Addr) (c : Nat) (x0 x1 x2 x3 x4 : Nat) (w : World) (B : Nat) (h0 : x0 < 256) (h1 : x1 < 256) (h2 : x2 < 256) (h3 : x3 < 256) (h4 : x4 < 256) (hr : Rd w B A (ints .u8 [x0, x1, x2, x3, x4])) :
    Calls Tryd.prog 59 #[.slice A 5 c] w fun e w' => e = .returned (.int .u64 (cat 8 [x0, x1, x2, x3, x4] : Nat)) ∧ w = w' := by
  obtain ⟨b, off, rfl, cc⟩ := hr.all (by simp [ints])
  have c0 := cc 0 _ rfl
  have c1 := cc 1 _ rfl
  have c2 := cc 2 _ rfl
  have c3 := cc 3 _ rfl
  have c4 := cc 4 _ rfl
  rw [Nat.add_zero] at c0
  clear cc hr
  go_enter Tryd.func59, Tryd.ntmps59
  go_wp2
  go_ret
  refine ⟨ret_int ?_, rfl⟩
  simp only [cat, Nat.reducePow]
  rw [or_u64 64 (0) ((x4 : Int) * 4294967296) (by omega) (by omega) (by omega) (by omega) (by omega)]
  rw [or_u64 32 (0 + (x4 : Int) * 4294967296) ((x3 : Int) * 16777216) (by omega) (by omega) (by omega) (by omega) (by omega)]
  rw [or_u64 24 (0 + (x4 : Int) * 4294967296 + (x3 : Int) * 16777216) ((x2 : Int) * 65536) (by omega) (by omega) (by omega) (by omega) (by omega)]
  rw [or_u64 16 (0 + (x4 : Int) * 4294967296 + (x3 : Int) * 16777216 + (x2 : Int) * 65536) ((x1 : Int) * 256) (by omega) (by omega) (by omega) (by omega) (by omega)]
  rw [or_u64 8 (0 + (x4 : Int) * 4294967296 + (x3 : Int) * 16777216 + (x2 : Int) * 65536 + (x1 : Int) * 256) ((x0 : Int)) (by omega) (by omega) (by omega) (by omega) (by omega)]
  omega

theorem low6 (A : Option Addr) (c : Nat) (x0 x1 x2 x3 x4 x5 : Nat) (w : World) (B : Nat) (h0 : x0 < 256) (h1 : x1 < 256) (h2 : x2 < 256) (h3 : x3 < 256) (h4 : x4 < 256) (h5 : x5 < 256) (hr : Rd w B A (ints .u8 [x0, x1, x2, x3, x4, x5])) :
    Calls Tryd.prog 59 #[.slice A 6 c] w fun e w' => e = .returned (.int .u64 (cat 8 [x0, x1, x2, x3, x4, x5] : Nat)) ∧ w = w' := by
  obtain ⟨b, off, rfl, cc⟩ := hr.all (by simp [ints])
  have c0 := cc 0 _ rfl
  have c1 := cc 1 _ rfl
  have c2 := cc 2 _ rfl
  have c3 := cc 3 _ rfl
  have c4 := cc 4 _ rfl
  have c5 := cc 5 _ rfl
  rw [Nat.add_zero] at c0
  clear cc hr
  go_enter Tryd.func59, Tryd.ntmps59
  go_wp2
  go_ret
  refine ⟨ret_int ?_, rfl⟩
  simp only [cat, Nat.reducePow]
  rw [or_u64 64 (0) ((x5 : Int) * 1099511627776) (by omega) (by omega) (by omega) (by omega) (by omega)]
  rw [or_u64 40 (0 + (x5 : Int) * 1099511627776) ((x4 : Int) * 4294967296) (by omega) (by omega) (by omega) (by omega) (by omega)]
  rw [or_u64 32 (0 + (x5 : Int) * 1099511627776 + (x4 : Int) * 4294967296) ((x3 : Int) * 16777216) (by omega) (by omega) (by omega) (by omega) (by omega)]
  rw [or_u64 24 (0 + (x5 : Int) * 1099511627776 + (x4 : Int) * 4294967296 + (x3 : Int) * 16777216) ((x2 : Int) * 65536) (by omega) (by omega) (by omega) (by omega) (by omega)]
  rw [or_u64 16 (0 + (x5 : Int) * 1099511627776 + (x4 : Int) * 4294967296 + (x3 : Int) * 16777216 + (x2 : Int) * 65536) ((x1 : Int) * 256) (by omega) (by omega) (by omega) (by omega) (by omega)]
  rw [or_u64 8 (0 + (x5 : Int) * 1099511627776 + (x4 : Int) * 4294967296 + (x3 : Int) * 16777216 + (x2 : Int) * 65536 + (x1 : Int) * 256) ((x0 : Int)) (by omega) (by omega) (by omega) (by omega) (by omega)]
  omega

theorem blow7 (A : Option Addr) (c : Nat) (x0 x1 x2 x3 x4 x5 x6 : Nat) (w : World) (B : Nat) (h0 : x0 < 256) (h1 : x1 < 256) (h2 : x2 < 256) (h3 : x3 < 256) (h4 : x4 < 256) (h5 : x5 < 256) (h6 : x6 < 256) (hr : Rd w B A (ints .u8 [x0, x1, x2, x3, x4, x5, x6])) :
    Calls Tryd.prog 59 #[.slice A 7 c] w fun e w' => e = .returned (.int .u64 (cat 8 [x0, x1, x2, x3, x4, x5, x6] : Nat)) ∧ w = w' := by
  obtain ⟨b, off, rfl, cc⟩ := hr.all (by simp [ints])
  have c0 := cc 0 _ rfl
  have c1 := cc 1 _ rfl
  have c2 := cc 2 _ rfl
  have c3 := cc 3 _ rfl
  have c4 := cc 4 _ rfl
  have c5 := cc 5 _ rfl
  have c6 := cc 6 _ rfl
  rw [Nat.add_zero] at c0
  clear cc hr
  go_enter Tryd.func59, Tryd.ntmps59
  go_wp2
  go_ret
  refine ⟨ret_int ?_, rfl⟩
  simp only [cat, Nat.reducePow]
  rw [or_u64 64 (0) ((x6 : Int) * 281474976710656) (by omega) (by omega) (by omega) (by omega) (by omega)]
  rw [or_u64 48 (0 + (x6 : Int) * 281474976710656) ((x5 : Int) * 1099511627776) (by omega) (by omega) (by omega) (by omega) (by omega)]
  rw [or_u64 40 (0 + (x6 : Int) * 281474976710656 + (x5 : Int) * 1099511627776) ((x4 : Int) * 4294967296) (by omega) (by omega) (by omega) (by omega) (by omega)]
  rw [or_u64 32 (0 + (x6 : Int) * 281474976710656 + (x5 : Int) * 1099511627776 + (x4 : Int) * 4294967296) ((x3 : Int) * 16777216) (by omega) (by omega) (by omega) (by omega) (by omega)]
  rw [or_u64 24 (0 + (x6 : Int) * 281474976710656 + (x5 : Int) * 1099511627776 + (x4 : Int) * 4294967296 + (x3 : Int) * 16777216) ((x2 : Int) * 65536) (by omega) (by omega) (by omega) (by omega) (by omega)]
  rw [or_u64 16 (0 + (x6 : Int) * 281474976710656 + (x5 : Int) * 1099511627776 + (x4 : Int) * 4294967296 + (x3 : Int) * 16777216 + (x2 : Int) * 65536) ((x1 : Int) * 256) (by omega) (by omega) (by omega) (by omega) (by omega)]
  rw [or_u64 8 (0 + (x6 : Int) * 281474976710656 + (x5 : Int) * 1099511627776 + (x4 : Int) * 4294967296 + (x3 : Int) * 16777216 + (x2 : Int) * 65536 + (x1 : Int) * 256) ((x0 : Int)) (by omega) (by omega) (by omega) (by omega) (by omega)]
  omega

theorem low8 (A : Option Addr) (c : Nat) (x0 x1 x2 x3 x4 x5 x6 x7 : Nat) (w : World) (B : Nat) (h0 : x0 < 256) (h1 : x1 < 256) (h2 : x2 < 256) (h3 : x3 < 256) (h4 : x4 < 256) (h5 : x5 < 256) (h6 : x6 < 256) (h7 : x7 < 256) (hr : Rd w B A (ints .u8 [x0, x1, x2, x3, x4, x5, x6, x7])) :
    Calls Tryd.prog 59 #[.slice A 8 c] w fun e w' => e = .returned (.int .u64 (cat 8 [x0, x1, x2, x3, x4, x5, x6, x7] : Nat)) ∧ w = w' := by
  obtain ⟨b, off, rfl, cc⟩ := hr.all (by simp [ints])
  have c0 := cc 0 _ rfl
  have c1 := cc 1 _ rfl
  have c2 := cc 2 _ rfl
  have c3 := cc 3 _ rfl
  have c4 := cc 4 _ rfl
  have c5 := cc 5 _ rfl
  have c6 := cc 6 _ rfl
  have c7 := cc 7 _ rfl
  rw [Nat.add_zero] at c0
  clear cc hr
  go_enter Tryd.func59, Tryd.ntmps59
  go_wp2
  go_ret
  refine ⟨ret_int ?_, rfl⟩
  simp only [cat, Nat.reducePow]
  rw [or_u64 64 (0) ((x7 : Int) * 72057594037927936) (by omega) (by omega) (by omega) (by omega) (by omega)]
  rw [or_u64 56 (0 + (x7 : Int) * 72057594037927936) ((x6 : Int) * 281474976710656) (by omega) (by omega) (by omega) (by omega) (by omega)]
  rw [or_u64 48 (0 + (x7 : Int) * 72057594037927936 + (x6 : Int) * 281474976710656) ((x5 : Int) * 1099511627776) (by omega) (by omega) (by omega) (by omega) (by omega)]
  rw [or_u64 40 (0 + (x7 : Int) * 72057594037927936 + (x6 : Int) * 281474976710656 + (x5 : Int) * 1099511627776) ((x4 : Int) * 4294967296) (by omega) (by omega) (by omega) (by omega) (by omega)]
  rw [or_u64 32 (0 + (x7 : Int) * 72057594037927936 + (x6 : Int) * 281474976710656 + (x5 : Int) * 1099511627776 + (x4 : Int) * 4294967296) ((x3 : Int) * 16777216) (by omega) (by omega) (by omega) (by omega) (by omega)]
  rw [or_u64 24 (0 + (x7 : Int) * 72057594037927936 + (x6 : Int) * 281474976710656 + (x5 : Int) * 1099511627776 + (x4 : Int) * 4294967296 + (x3 : Int) * 16777216) ((x2 : Int) * 65536) (by omega) (by omega) (by omega) (by omega) (by omega)]
  rw [or_u64 16 (0 + (x7 : Int) * 72057594037927936 + (x6 : Int) * 281474976710656 + (x5 : Int) * 1099511627776 + (x4 : Int) * 4294967296 + (x3 : Int) * 16777216 + (x2 : Int) * 65536) ((x1 : Int) * 256) (by omega) (by omega) (by omega) (by omega) (by omega)]
  rw [or_u64 8 (0 + (x7 : Int) * 72057594037927936 + (x6 : Int) * 281474976710656 + (x5 : Int) * 1099511627776 + (x4 : Int) * 4294967296 + (x3 : Int) * 16777216 + (x2 : Int) * 65536 + (x1 : Int) * 256) ((x0 : Int)) (by omega) (by omega) (by omega) (by omega) (by omega)]
  omega

theorem low_any (A : Option Addr) (c : Nat) (l : List Nat) (w : World) (B : Nat) (hl : l.length ≤ 8) (hr : Rd w B A (ints .u8 l)) (h : ∀ x ∈ l, x < 256) :
    Calls Tryd.prog 59 #[.slice A l.length c] w fun e w' => e = .returned (.int .u64 (cat 8 l : Nat)) ∧ w = w' := by
  match l, hl with
  | [], _ => exact low0 A c  w B hr
  | [x0], _ => exact low1 A c x0 w B (h x0 (by simp)) hr
  | [x0, x1], _ => exact low2 A c x0 x1 w B (h x0 (by simp)) (h x1 (by simp)) hr
  | [x0, x1, x2], _ => exact low3 A c x0 x1 x2 w B (h x0 (by simp)) (h x1 (by simp)) (h x2 (by simp)) hr
  | [x0, x1, x2, x3], _ => exact low4 A c x0 x1 x2 x3 w B (h x0 (by simp)) (h x1 (by simp)) (h x2 (by simp)) (h x3 (by simp)) hr
  | [x0, x1, x2, x3, x4], _ => exact low5 A c x0 x1 x2 x3 x4 w B (h x0 (by simp)) (h x1 (by simp)) (h x2 (by simp)) (h x3 (by simp)) (h x4 (by simp)) hr
  | [x0, x1, x2, x3, x4, x5], _ => exact low6 A c x0 x1 x2 x3 x4 x5 w B (h x0 (by simp)) (h x1 (by simp)) (h x2 (by simp)) (h x3 (by simp)) (h x4 (by simp)) (h x5 (by simp)) hr
  | [x0, x1, x2, x3, x4, x5, x6], _ => exact blow7 A c x0 x1 x2 x3 x4 x5 x6 w B (h x0 (by simp)) (h x1 (by simp)) (h x2 (by simp)) (h x3 (by simp)) (h x4 (by simp)) (h x5 (by simp)) (h x6 (by simp)) hr
  | [x0, x1, x2, x3, x4, x5, x6, x7], _ => exact low8 A c x0 x1 x2 x3 x4 x5 x6 x7 w B (h x0 (by simp)) (h x1 (by simp)) (h x2 (by simp)) (h x3 (by simp)) (h x4 (by simp)) (h x5 (by simp)) (h x6 (by simp)) (h x7 (by simp)) hr
  | _ :: _ :: _ :: _ :: _ :: _ :: _ :: _ :: _ :: _, hl => simp at hl
end Go.Proofs.YtfcedbhmbcbiaaaDoor
