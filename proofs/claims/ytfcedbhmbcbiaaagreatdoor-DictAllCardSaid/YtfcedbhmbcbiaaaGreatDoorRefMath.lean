/- Plain mathematics of the document's own way with bits: one bit at a time. -/
import Derived.Test.YtfcedbhmbcbiaaaGreatDoorBitsMath
namespace Go.Proofs.YtfcedbhmbcbiaaaGreatDoor
set_option linter.unusedVariables false

theorem mod_bit (x i : Nat) : x % 2 ^ (i + 1) = x % 2 ^ i + x / 2 ^ i % 2 * 2 ^ i := by
  rw [Nat.pow_succ, Nat.mod_mul, Nat.mul_comm (2 ^ i)]
theorem sum_lt (M x p i : Nat) (hM : M < 2 ^ p) : M + x % 2 ^ i * 2 ^ p < 2 ^ (p + i) := by
  have h : x % 2 ^ i < 2 ^ i := Nat.mod_lt _ (Nat.two_pow_pos i)
  calc M + x % 2 ^ i * 2 ^ p < 2 ^ p + x % 2 ^ i * 2 ^ p := by omega
    _ = (x % 2 ^ i + 1) * 2 ^ p := by rw [Nat.succ_mul, Nat.add_comm]
    _ ≤ 2 ^ i * 2 ^ p := Nat.mul_le_mul_right _ h
    _ = 2 ^ (p + i) := by rw [← Nat.pow_add, Nat.add_comm]
theorem refSum (M x p i : Nat) : M + x % 2 ^ (i + 1) * 2 ^ p = (M + x % 2 ^ i * 2 ^ p) + x / 2 ^ i % 2 * 2 ^ (p + i) := by
  rw [mod_bit, Nat.add_mul, Nat.add_assoc, Nat.mul_assoc, ← Nat.pow_add, Nat.add_comm i p]
theorem refByte (N b q s : Nat) : (N / 2 ^ (8 * q) % 2 ^ 8 + b * 2 ^ s) % 256 = (N + b * 2 ^ (8 * q + s)) / 2 ^ (8 * q) % 2 ^ 8 := by
  have e : b * 2 ^ (8 * q + s) = 2 ^ (8 * q) * (b * 2 ^ s) := by rw [Nat.pow_add, Nat.mul_left_comm]
  rw [e, Nat.add_mul_div_left _ _ (Nat.two_pow_pos _), show (256 : Nat) = 2 ^ 8 from rfl, Nat.mod_add_mod]
theorem refStep (M x p i m y : Nat) (hM : M < 2 ^ p) (hy : y = (M + x % 2 ^ i * 2 ^ p) / 2 ^ (8 * ((p + i) / 8)) % 2 ^ 8) :
    (chop 8 (M + x % 2 ^ i * 2 ^ p) m).set ((p + i) / 8) ((y + x / 2 ^ i % 2 * 2 ^ ((p + i) % 8)) % 256) = chop 8 (M + x % 2 ^ (i + 1) * 2 ^ p) m := by
  have hat : 8 * ((p + i) / 8) + (p + i) % 8 = p + i := by omega
  have hN := sum_lt M x p i hM
  have hS := refSum M x p i
  rw [← hat] at hN
  have h1 := laySet (M + x % 2 ^ i * 2 ^ p) (x / 2 ^ i % 2) ((p + i) / 8) ((p + i) % 8) m (by omega) hN
  rw [hy, refByte, h1, hat, ← hS]
  congr 1
  refine Nat.mod_eq_of_lt (Nat.lt_of_lt_of_le (sum_lt M x p (i + 1) hM) (Nat.pow_le_pow_right (by omega) (by omega)))
theorem refBit1 (N q s : Nat) (h : s < 8) : N / 2 ^ (8 * q) % 2 ^ 8 / 2 ^ s % 2 ^ 1 = N / 2 ^ (8 * q + s) % 2 ^ 1 := by
  refine Nat.eq_of_testBit_eq fun i => ?_
  simp only [Nat.testBit_mod_two_pow, Nat.testBit_div_two_pow]
  by_cases hi : i < 1
  · have : i + s < 8 := by omega
    simp only [hi, this, decide_true, Bool.true_and]
    congr 1; omega
  · simp [hi]
theorem refBit (N q s : Nat) (h : s < 8) : N / 2 ^ (8 * q) % 2 ^ 8 / 2 ^ s % 2 = N / 2 ^ (8 * q + s) % 2 := refBit1 N q s h
theorem refTakeStep (N p t k : Nat) (ht : t < k) : 2 * (N / 2 ^ (p + (t + 1)) % 2 ^ (k - (t + 1))) + N / 2 ^ (p + t) % 2 = N / 2 ^ (p + t) % 2 ^ (k - t) := by
  have e1 : 2 ^ (k - t) = 2 * 2 ^ (k - (t + 1)) := by
    rw [show k - t = (k - (t + 1)) + 1 by omega, Nat.pow_succ, Nat.mul_comm]
  have e2 : N / 2 ^ (p + (t + 1)) = N / 2 ^ (p + t) / 2 := by
    rw [Nat.div_div_eq_div_mul, ← Nat.add_assoc, Nat.pow_succ]
  rw [e1, e2, Nat.mod_mul, Nat.add_comm]
theorem pow_le64 (k t : Nat) (hk : k ≤ 64) : 2 ^ (k - (t + 1)) ≤ 9223372036854775808 := by
  have : 2 ^ (k - (t + 1)) ≤ 2 ^ 63 := Nat.pow_le_pow_right (by omega) (by omega)
  simpa using this
theorem set_same (L : List Nat) (i n : Nat) (hL : L.length = n) (hi : i < n) : (L.take i ++ List.replicate (n - i) 0).set i 0 = L.take i ++ List.replicate (n - i) 0 := by
  rw [List.set_append_right _ _ (by simp; omega), List.length_take_of_le (by omega), Nat.sub_self, show n - i = (n - (i + 1)) + 1 by omega, List.replicate_succ, List.set_cons_zero]
theorem chop_mod (w N m n : Nat) (h : m ≤ n) : chop w (N % 2 ^ (w * n)) m = chop w N m := by
  refine List.ext_getElem (by simp [chop_length]) fun j h1 h2 => ?_
  rw [chop_length] at h1
  rw [chop_get, chop_get]
  refine Nat.eq_of_testBit_eq fun i => ?_
  simp only [Nat.testBit_mod_two_pow, Nat.testBit_div_two_pow]
  by_cases hi : i < w
  · have : i + w * j < w * n := by
      have : w * (j + 1) ≤ w * n := Nat.mul_le_mul_left _ (by omega)
      rw [Nat.mul_succ] at this; omega
    simp [hi, this]
  · simp [hi]
/-- What was taken, put again: just the bytes that were handed in, or not. -/
theorem again_iff (b : List Nat) (n k m : Nat) (h : ∀ x ∈ b, x < 256) (hl : b.length = (n * k + 7) / 8) (hm : m = b.length) : chop 8 (cat k (chop k (cat 8 b) n)) m = b ↔ cat 8 b < 2 ^ (n * k) := by
  rw [cat_chop, Nat.mul_comm k n]
  constructor
  · intro e
    have h1 := congrArg (cat 8) e
    rw [cat_chop] at h1
    have h2 : cat 8 b % 2 ^ (n * k) < 2 ^ (n * k) := Nat.mod_lt _ (Nat.two_pow_pos _)
    have h3 := Nat.mod_le (cat 8 b % 2 ^ (n * k)) (2 ^ (8 * m))
    omega
  · intro e
    rw [Nat.mod_eq_of_lt e, hm]
    exact chop_cat 8 b h
end Go.Proofs.YtfcedbhmbcbiaaaGreatDoor
