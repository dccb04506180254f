/- Exclusive or with all bits, and with none. -/
import Derived.Laws.BitsAllLaws
import Derived.Laws.BitsLemmas
import Derived.Laws.Bits64
import Derived.PlainAid
import Derived.WalkSmall
import Derived.Test.YtifejanbgobngaaDoorNumMath
namespace Go.Proofs.YtifejanbgobngaaDoor
open Go.RowKit
set_option linter.unusedVariables false

theorem nat_xor_ones (a : Nat) (h : a < 2 ^ 64) : a ^^^ (2 ^ 64 - 1) = 2 ^ 64 - (a + 1) := by
  refine Nat.eq_of_testBit_eq fun i => ?_
  rw [Nat.testBit_xor, Nat.testBit_two_pow_sub_one, Nat.testBit_two_pow_sub_succ h]
  by_cases hi : i < 64
  · simp [hi]
  · have : a.testBit i = false := Nat.testBit_lt_two_pow (Nat.lt_of_lt_of_le h (Nat.pow_le_pow_right (by omega) (by omega)))
    simp [hi, this]
theorem zig_val (v : Int) (h0 : -9223372036854775808 ≤ v) (h1 : v ≤ 9223372036854775807) :
    bits BinOp.xor IntKind.u64 (IntKind.u64.wrap (IntKind.u64.wrap v * 2)) (IntKind.u64.wrap (v / 9223372036854775808)) = ((zig v : Nat) : Int) := by
  unfold zig
  by_cases hv : v < 0
  · rw [if_pos hv, PlainAid.shr63_neg hv h0, PlainAid.u64_neg hv (by omega)]
    obtain ⟨a, ha⟩ : ∃ a : Nat, (a : Int) = 2 * v + 18446744073709551616 := ⟨(2 * v + 18446744073709551616).toNat, by omega⟩
    have e1 : IntKind.u64.wrap ((v + 18446744073709551616) * 2) = (a : Int) := by rw [IntKind.wrap_u64]; omega
    have e2 : IntKind.u64.wrap (-1) = ((2 ^ 64 - 1 : Nat) : Int) := by rw [IntKind.wrap_u64]; rfl
    rw [e1, e2, bits_xor_u64_nat a (2 ^ 64 - 1) (by omega) (by decide), nat_xor_ones a (by omega)]
    omega
  · rw [if_neg hv, PlainAid.shr63_nonneg (by omega) h1, PlainAid.u64_nonneg (n := v) (by omega) (by omega), PlainAid.u64_nonneg (n := v * 2) (by omega) (by omega)]
    obtain ⟨a, rfl⟩ := Int.eq_ofNat_of_zero_le (show 0 ≤ v by omega)
    have e1 : (a : Int) * 2 = ((a * 2 : Nat) : Int) := by simp
    have e2 : IntKind.u64.wrap 0 = ((0 : Nat) : Int) := by rw [IntKind.wrap_u64]; rfl
    rw [e1, e2, bits_xor_u64_nat _ 0 (by omega) (by decide), Nat.xor_zero]
    omega
theorem xor_i64_neg (a : Nat) (h : a < 9223372036854775808) : bits .xor .i64 (a : Int) (-1) = -(a : Int) - 1 := by
  show IntKind.i64.wrap ((BitVec.ofInt 64 (a : Int) ^^^ BitVec.ofInt 64 (-1)).toNat : Int) = _
  have e : BitVec.ofInt 64 (-1) = BitVec.allOnes 64 := by decide
  rw [e, BitVec.xor_allOnes, BitVec.toNat_not, BitVec.ofInt_natCast, BitVec.toNat_ofNat, Nat.mod_eq_of_lt (by omega), IntKind.wrap_i64]
  omega
theorem xor_i64_zero (a : Nat) (h : a < 9223372036854775808) : bits .xor .i64 (a : Int) 0 = (a : Int) := by
  show IntKind.i64.wrap ((BitVec.ofInt 64 (a : Int) ^^^ BitVec.ofInt 64 0).toNat : Int) = _
  have e : BitVec.ofInt 64 0 = 0#64 := by decide
  rw [e, BitVec.xor_zero, BitVec.ofInt_natCast, BitVec.toNat_ofNat, Nat.mod_eq_of_lt (by omega), IntKind.wrap_i64]
  omega
theorem zag_val (u : Nat) (h1 : u < 18446744073709551616) : bits BinOp.xor IntKind.i64 ((u : Int) / 2) (wrap64 (-wrap64 (bits BinOp.and IntKind.u64 (u : Int) 1))) = zag u := by
  unfold zag
  rw [and_one_u64 _ (by omega) (by omega)]
  have e : ((u : Int) / 2) = ((u / 2 : Nat) : Int) := by simp
  rw [e]
  by_cases hu : u % 2 = 1
  · rw [if_pos hu]
    have e1 : wrap64 (-wrap64 ((u : Int) % 2)) = -1 := by unfold wrap64; omega
    rw [e1, xor_i64_neg _ (by omega)]
  · rw [if_neg hu]
    have e1 : wrap64 (-wrap64 ((u : Int) % 2)) = 0 := by unfold wrap64; omega
    rw [e1, xor_i64_zero _ (by omega)]
end Go.Proofs.YtifejanbgobngaaDoor
